/- Korean syllables: any lead, vowel and tail. -/
import Derived.Test.YteflpcdhlaeanaaHanK
namespace Go.Proofs.Yteflpcdhlaeanaa
open Go.RowKit
set_option linter.unusedVariables false

theorem cells_two (r l v : Int) (h0 : hpart r 0 = 4352 + l) (h1 : hpart r 1 = 4449 + v) : ∀ j, j < 2 → #[Value.int .i32 (4352 + l), Value.int .i32 (4449 + v)][j]? = some (iv (hpart r) j) := by
  intro j hj
  match j, hj with
  | 0, _ => simp [iv, h0]
  | 1, _ => simp [iv, h1]

theorem cells_three (r l v t : Int) (h0 : hpart r 0 = 4352 + l) (h1 : hpart r 1 = 4449 + v) (h2 : hpart r 2 = 4519 + t) : ∀ j, j < 3 → (#[Value.int .i32 (4352 + l), Value.int .i32 (4449 + v)].toList ++ #[Value.int .i32 (4519 + t)].toList)[j]? = some (iv (hpart r) j) := by
  intro j hj
  match j, hj with
  | 0, _ => simp [iv, h0]
  | 1, _ => simp [iv, h1]
  | 2, _ => simp [iv, h2]

set_option maxHeartbeats 2000000 in
theorem parts_two (a b c l v r : Int) (hl : a.tmod 19 % 19 = l) (hv : b.tmod 21 % 21 = v) (ht : (c.tmod 28 + 28) % 28 = 0)
    (x0 : -19 < a.tmod 19) (x1 : a.tmod 19 < 19) (y0 : -21 < b.tmod 21) (y1 : b.tmod 21 < 21) (z0 : -28 < c.tmod 28) (z1 : c.tmod 28 < 28) (l0 : 0 ≤ l) (l1 : l < 19) (v0 : 0 ≤ v) (v1 : v < 21)
    (hr : r = 44032 + (l * 21 + v) * 28)
    (hj : ∀ w, Calls Try.prog 13 #[.int .i32 (4352 + l), .int .i32 (4449 + v)] w fun e w' => e = .returned (.tuple #[.int .i32 r, .bool true]) ∧ w = w')
    (hs : ∀ w, Calls Try.prog 8 #[.int .i32 r] w (Tells 2 (hpart r) w)) (h0 : hpart r 0 = 4352 + l) (h1 : hpart r 1 = 4449 + v) (w : World) :
    Calls Try.prog 6 #[.int .i64 a, .int .i64 b, .int .i64 c] w (Yes w) := by
  have E1 : (r == 44032 + (l * 21 + v) * 28) = true := by simp [hr]
  have E2 : (r == 44032 + (l * 21 + v) * 28 + 0) = true := by simp [hr]
  have HC := Lib.hid (cells_two r l v h0 h1)
  have HL2 := Lib.hid (show (a.tmod 19 + 19) % 19 = l by omega)
  have HV2 := Lib.hid (show (b.tmod 21 + 21) % 21 = v by omega)
  have HL := Lib.hid hl
  have HV := Lib.hid hv
  have HT := Lib.hid ht
  have Hj := Lib.hid hj
  have Hs := Lib.hid hs
  have r0 : 44032 ≤ r := by omega
  have r1 : r < 55204 := by omega
  clear hl hv ht hj hs h0 h1 hr
  go_enter Try.func6, Try.ntmps6
  go_wp2_with fail
  rw [HL2.out, HV2.out, HT.out, HL.out, HV.out]
  go_wp2_with (first
    | (go_at_call 13; refine (Hj.out _).mono ?_; rintro e w' ⟨rfl, rfl⟩)
    | (go_at_call 8; refine (Hs.out _).mono ?_; rintro e w1 ⟨A, d, rfl, hA, hb⟩)
    | (go_at_call 7; refine (same_yes A _ 2 d _ (hpart r) _ (by omega) hA ((rd_new _ _ _ _ _ HC.out).later hb)).mono ?_; rintro e w3 ⟨rfl, k, rfl⟩)
    | (go_at_call 12; refine (awake_yes _).mono ?_; rintro e w4 ⟨rfl, hb4⟩))
  go_ret
  refine ⟨rfl, ?_⟩
  have h1 := (Below.refl w.heap.size w).alloc (Nat.le_refl _) (.cells #[.int .i32 (4352 + l), .int .i32 (4449 + v)] 21)
  have h2 := hb.mono (Nat.le_of_lt (Nat.lt_of_lt_of_eq (Nat.lt_succ_self _) (World.size_alloc w (.cells #[.int .i32 (4352 + l), .int .i32 (4449 + v)] 21)).symm))
  exact (h1.trans h2).trans ((below_drewN (Below.refl _ _) k).trans (hb4.mono (Nat.le_trans h1.size h2.size)))

set_option maxHeartbeats 2000000 in
theorem parts_three (a b c l v t r s : Int) (hl : a.tmod 19 % 19 = l) (hv : b.tmod 21 % 21 = v) (ht : c.tmod 28 % 28 = t)
    (x0 : -19 < a.tmod 19) (x1 : a.tmod 19 < 19) (y0 : -21 < b.tmod 21) (y1 : b.tmod 21 < 21) (z0 : -28 < c.tmod 28) (z1 : c.tmod 28 < 28) (l0 : 0 ≤ l) (l1 : l < 19) (v0 : 0 ≤ v) (v1 : v < 21) (t0 : 0 < t) (t1 : t < 28)
    (hr : r = 44032 + (l * 21 + v) * 28 + t)
    (hj : ∀ w, Calls Try.prog 13 #[.int .i32 (4352 + l), .int .i32 (4449 + v)] w fun e w' => e = .returned (.tuple #[.int .i32 s, .bool true]) ∧ w = w')
    (hk : ∀ w, Calls Try.prog 13 #[.int .i32 s, .int .i32 (4519 + t)] w fun e w' => e = .returned (.tuple #[.int .i32 r, .bool true]) ∧ w = w')
    (hs : ∀ w, Calls Try.prog 8 #[.int .i32 r] w (Tells 3 (hpart r) w)) (h0 : hpart r 0 = 4352 + l) (h1 : hpart r 1 = 4449 + v) (h2 : hpart r 2 = 4519 + t) (w : World) :
    Calls Try.prog 6 #[.int .i64 a, .int .i64 b, .int .i64 c] w (Yes w) := by
  have E1 : (r == 44032 + (l * 21 + v) * 28 + t) = true := by simp [hr]
  have HC := Lib.hid (cells_three r l v t h0 h1 h2)
  have HT := Lib.hid ht
  have HL := Lib.hid hl
  have HV := Lib.hid hv
  have Hj := Lib.hid hj
  have Hk := Lib.hid hk
  have Hs := Lib.hid hs
  have r0 : 44032 ≤ r := by omega
  have r1 : r < 55204 := by omega
  clear hl hv ht hj hs h0 h1 h2 hr hk
  go_enter Try.func6, Try.ntmps6
  go_wp2_with fail
  rw [HL.out, HV.out, HT.out]
  refine (Hj.out _).mono ?_
  rintro e w' ⟨rfl, rfl⟩
  go_wp2_with fail
  refine (Hk.out _).mono ?_
  rintro e w' ⟨rfl, rfl⟩
  go_wp2_with (first
    | (at_builtin; refine wpList_push eltI (own_new _ _ _ 2 rfl (by unfold maxLen; omega)) (by simp) rfl rfl rfl rfl (by simp) rfl rfl (by unfold maxLen; omega) (by omega) ?_; intro B d w1 hp; have hown := hp.own; have hbw := hp.below ((Below.refl _ _).alloc (Nat.le_refl _) _) (own_new _ _ _ 2 rfl (by unfold maxLen; omega)) (Nat.le_refl _); clear hp)
    | (go_at_call 8; refine (Hs.out _).mono ?_; rintro e w2 ⟨A, c', rfl, hA, hb⟩)
    | (go_at_call 7; refine (same_yes A B 3 c' d (hpart r) _ (by omega) hA ((rd_own hown HC.out).later hb)).mono ?_; rintro e w3 ⟨rfl, k, rfl⟩)
    | (go_at_call 12; refine (awake_yes _).mono ?_; rintro e w4 ⟨rfl, hb4⟩))
  go_ret
  exact ⟨rfl, (hbw.trans (hb.mono hbw.size)).trans ((below_drewN (Below.refl _ _) k).trans (hb4.mono (Nat.le_trans hbw.size hb.size)))⟩

theorem walk_HangulParts (a : Int) (_wa : (Lit.int .i64 a).wf = true) (b : Int) (_wb : (Lit.int .i64 b).wf = true) (c : Int) (_wc : (Lit.int .i64 c).wf = true) (w : World) :
    Calls Try.prog 6 #[.int .i64 a, .int .i64 b, .int .i64 c] w (Yes w) := by
  obtain ⟨x0, x1⟩ := tmod_in a 19 (by omega)
  obtain ⟨y0, y1⟩ := tmod_in b 21 (by omega)
  obtain ⟨z0, z1⟩ := tmod_in c 28 (by omega)
  obtain ⟨l, hl⟩ : ∃ l, a.tmod 19 % 19 = l := ⟨_, rfl⟩
  obtain ⟨v, hv⟩ : ∃ v, b.tmod 21 % 21 = v := ⟨_, rfl⟩
  obtain ⟨t, ht⟩ : ∃ t, c.tmod 28 % 28 = t := ⟨_, rfl⟩
  have l0 : 0 ≤ l := by omega
  have l1 : l < 19 := by omega
  have v0 : 0 ≤ v := by omega
  have v1 : v < 21 := by omega
  have t0 : 0 ≤ t := by omega
  have t1 : t < 28 := by omega
  by_cases h : t = 0
  · obtain ⟨r, hr⟩ : ∃ r, r = 44032 + (l * 21 + v) * 28 := ⟨_, rfl⟩
    exact parts_two a b c l v r hl hv (by omega) x0 x1 y0 y1 z0 z1 l0 l1 v0 v1 hr (lv_is _ _ _ (by omega) (by omega) (by omega) (by omega) (by omega)) (fun w => split_two r w (by omega) (by omega) (by omega))
      (by simp only [hpart, if_pos]; omega) (by simp only [hpart, reduceIte, Nat.one_ne_zero]; omega) w
  · obtain ⟨r, hr⟩ : ∃ r, r = 44032 + (l * 21 + v) * 28 + t := ⟨_, rfl⟩
    exact parts_three a b c l v t r (r - t) hl hv ht x0 x1 y0 y1 z0 z1 l0 l1 v0 v1 (by omega) t1 hr (lv_is _ _ _ (by omega) (by omega) (by omega) (by omega) (by omega)) (st_is _ _ _ (by omega) (by omega) (by omega) (by omega) (by omega) (by omega))
      (fun w => split_three r w (by omega) (by omega) (by omega)) (by simp only [hpart, if_pos]; omega) (by simp only [hpart, reduceIte, Nat.one_ne_zero]; omega) (by simp [hpart]; omega) w

end Go.Proofs.Yteflpcdhlaeanaa
