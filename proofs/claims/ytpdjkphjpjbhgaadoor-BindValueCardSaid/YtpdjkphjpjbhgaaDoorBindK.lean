/- bind: what is usual, by the document. -/
import Derived.Test.YtpdjkphjpjbhgaaDoorBindJ
namespace Go.Proofs.YtpdjkphjpjbhgaaDoor
open Go.RowKit Go.Maps
set_option linter.unusedVariables false
set_option linter.unusedSimpArgs false
theorem wrap_i32 {r : Int} (h : (Lit.int .i32 r).wf = true) : IntKind.i64.wrap r = r := by
  have e1 : IntKind.i32.min = -2147483648 := by decide
  have e2 : IntKind.i32.max = 2147483647 := by decide
  have h2 : IntKind.i32.min ≤ r ∧ r ≤ IntKind.i32.max := by simpa [Lit.wf] using h
  exact IntWalk.i64_in _ (by omega)
section
variable (k r : Int) (m : Bool) (w : World) (hw : IntKind.i64.wrap r = r)
include hw in
set_option maxHeartbeats 1000000 in
theorem us_4 (p : Bool) : Calls Tryd.prog 17 #[stk p 4 r m] w (Tells w (32)) := by
  go_enter Tryd.func17, Tryd.ntmps17
  go_wp2
  go_ret
  exact ⟨rfl, (Below.refl _ _).alloc (Nat.le_refl _) _⟩
include hw in
set_option maxHeartbeats 1000000 in
theorem us_pm (hk : k ≠ 4) : Calls Tryd.prog 17 #[stk true k r true] w (Tells w (0)) := by
  have q : (k == 4) = false := by simpa using hk
  go_enter Tryd.func17, Tryd.ntmps17
  go_wp2
  go_ret
  exact ⟨rfl, (Below.refl _ _).alloc (Nat.le_refl _) _⟩
include hw in
set_option maxHeartbeats 1000000 in
theorem us_p2 : Calls Tryd.prog 17 #[stk true 2 r false] w (Tells w (rowL pre2 r)) := by
  have C : Calls Tryd.prog 19 #[.slice (some ⟨w.heap.size + 1, 0, none⟩) 3 3, .int .i64 r] ((w.alloc (.cells #[.bool true, .int .i64 2, .int .i32 r, .bool false] 31)).alloc (.cells #[.int .i64 24, .int .i64 18, .int .i64 21, .int .i64 21, .int .i64 7, .int .i64 26] 50)) (Tells ((w.alloc (.cells #[.bool true, .int .i64 2, .int .i32 r, .bool false] 31)).alloc (.cells #[.int .i64 24, .int .i64 18, .int .i64 21, .int .i64 21, .int .i64 7, .int .i64 26] 50)) (rowL pre2 r)) := by
    have hp := pair_new (w.alloc (.cells #[.bool true, .int .i64 2, .int .i32 r, .bool false] 31)) pre2 50 #[.int .i64 24, .int .i64 18, .int .i64 21, .int .i64 21, .int .i64 7, .int .i64 26] rfl
    rw [World.size_alloc] at hp
    exact row_any _ 3 3 pre2 _ rfl hp r (by decide)
  have C := Lib.hid C
  go_enter Tryd.func17, Tryd.ntmps17
  go_wp2_with fail
  (with_reducible refine C.out.mono ?_)
  rintro e w2 ⟨rfl, hb2⟩
  go_wp2
  go_ret
  exact ⟨rfl, (((Below.refl _ _).alloc (Nat.le_refl _) _).alloc (by simp) _).trans (hb2.mono (by simp; omega))⟩
include hw in
set_option maxHeartbeats 1000000 in
theorem us_p1 : Calls Tryd.prog 17 #[stk true 1 r false] w (Tells w (rowL pre1 r)) := by
  have C : Calls Tryd.prog 19 #[.slice (some ⟨w.heap.size + 1, 0, none⟩) 1 1, .int .i64 r] ((w.alloc (.cells #[.bool true, .int .i64 1, .int .i32 r, .bool false] 31)).alloc (.cells #[.int .i64 117, .int .i64 21] 50)) (Tells ((w.alloc (.cells #[.bool true, .int .i64 1, .int .i32 r, .bool false] 31)).alloc (.cells #[.int .i64 117, .int .i64 21] 50)) (rowL pre1 r)) := by
    have hp := pair_new (w.alloc (.cells #[.bool true, .int .i64 1, .int .i32 r, .bool false] 31)) pre1 50 #[.int .i64 117, .int .i64 21] rfl
    rw [World.size_alloc] at hp
    exact row_any _ 1 1 pre1 _ rfl hp r (by decide)
  have C := Lib.hid C
  go_enter Tryd.func17, Tryd.ntmps17
  go_wp2_with fail
  (with_reducible refine C.out.mono ?_)
  rintro e w2 ⟨rfl, hb2⟩
  go_wp2
  go_ret
  exact ⟨rfl, (((Below.refl _ _).alloc (Nat.le_refl _) _).alloc (by simp) _).trans (hb2.mono (by simp; omega))⟩
include hw in
set_option maxHeartbeats 1000000 in
theorem us_p0 (hk : k ≠ 4) (h2 : k ≠ 2) (h1 : k ≠ 1) : Calls Tryd.prog 17 #[stk true k r false] w (Tells w (0)) := by
  have q : (k == 4) = false := by simpa using hk
  have q2 : (k == 2) = false := by simpa using h2
  have q1 : (k == 1) = false := by simpa using h1
  go_enter Tryd.func17, Tryd.ntmps17
  go_wp2
  go_ret
  exact ⟨rfl, (Below.refl _ _).alloc (Nat.le_refl _) _⟩
include hw in
set_option maxHeartbeats 1000000 in
theorem us_3 : Calls Tryd.prog 17 #[stk false 3 r false] w (Tells w (rowL nam r)) := by
  have C : Calls Tryd.prog 19 #[.slice (some ⟨w.heap.size + 1, 0, none⟩) 7 7, .int .i64 r] ((w.alloc (.cells #[.bool false, .int .i64 3, .int .i32 r, .bool false] 31)).alloc (.cells #[.int .i64 1, .int .i64 22, .int .i64 2, .int .i64 23, .int .i64 3, .int .i64 3, .int .i64 4, .int .i64 4, .int .i64 5, .int .i64 7, .int .i64 6, .int .i64 8, .int .i64 8, .int .i64 9] 50)) (Tells ((w.alloc (.cells #[.bool false, .int .i64 3, .int .i32 r, .bool false] 31)).alloc (.cells #[.int .i64 1, .int .i64 22, .int .i64 2, .int .i64 23, .int .i64 3, .int .i64 3, .int .i64 4, .int .i64 4, .int .i64 5, .int .i64 7, .int .i64 6, .int .i64 8, .int .i64 8, .int .i64 9] 50)) (rowL nam r)) := by
    have hp := pair_new (w.alloc (.cells #[.bool false, .int .i64 3, .int .i32 r, .bool false] 31)) nam 50 #[.int .i64 1, .int .i64 22, .int .i64 2, .int .i64 23, .int .i64 3, .int .i64 3, .int .i64 4, .int .i64 4, .int .i64 5, .int .i64 7, .int .i64 6, .int .i64 8, .int .i64 8, .int .i64 9] rfl
    rw [World.size_alloc] at hp
    exact row_any _ 7 7 nam _ rfl hp r (by decide)
  have C := Lib.hid C
  go_enter Tryd.func17, Tryd.ntmps17
  go_wp2_with fail
  (with_reducible refine C.out.mono ?_)
  rintro e w2 ⟨rfl, hb2⟩
  go_wp2
  go_ret
  exact ⟨rfl, (((Below.refl _ _).alloc (Nat.le_refl _) _).alloc (by simp) _).trans (hb2.mono (by simp; omega))⟩
include hw in
set_option maxHeartbeats 1000000 in
theorem us_2m : Calls Tryd.prog 17 #[stk false 2 r true] w (Tells w (rowL ctm r)) := by
  have C : Calls Tryd.prog 19 #[.slice (some ⟨w.heap.size + 1, 0, none⟩) 2 2, .int .i64 r] ((w.alloc (.cells #[.bool false, .int .i64 2, .int .i32 r, .bool true] 31)).alloc (.cells #[.int .i64 127, .int .i64 12, .int .i64 8, .int .i64 12] 50)) (Tells ((w.alloc (.cells #[.bool false, .int .i64 2, .int .i32 r, .bool true] 31)).alloc (.cells #[.int .i64 127, .int .i64 12, .int .i64 8, .int .i64 12] 50)) (rowL ctm r)) := by
    have hp := pair_new (w.alloc (.cells #[.bool false, .int .i64 2, .int .i32 r, .bool true] 31)) ctm 50 #[.int .i64 127, .int .i64 12, .int .i64 8, .int .i64 12] rfl
    rw [World.size_alloc] at hp
    exact row_any _ 2 2 ctm _ rfl hp r (by decide)
  have C := Lib.hid C
  go_enter Tryd.func17, Tryd.ntmps17
  go_wp2_with fail
  (with_reducible refine C.out.mono ?_)
  rintro e w2 ⟨rfl, hb2⟩
  go_wp2
  go_ret
  exact ⟨rfl, (((Below.refl _ _).alloc (Nat.le_refl _) _).alloc (by simp) _).trans (hb2.mono (by simp; omega))⟩
include hw in
set_option maxHeartbeats 1000000 in
theorem us_2 : Calls Tryd.prog 17 #[stk false 2 r false] w (Tells w (rowL ctl r)) := by
  have C : Calls Tryd.prog 19 #[.slice (some ⟨w.heap.size + 1, 0, none⟩) 24 24, .int .i64 r] ((w.alloc (.cells #[.bool false, .int .i64 2, .int .i32 r, .bool false] 31)).alloc (.cells #[.int .i64 0, .int .i64 17, .int .i64 1, .int .i64 7, .int .i64 2, .int .i64 4, .int .i64 4, .int .i64 9, .int .i64 5, .int .i64 8, .int .i64 6, .int .i64 3, .int .i64 7, .int .i64 26, .int .i64 8, .int .i64 10, .int .i64 127, .int .i64 10, .int .i64 10, .int .i64 2, .int .i64 13, .int .i64 2, .int .i64 11, .int .i64 13, .int .i64 12, .int .i64 27, .int .i64 14, .int .i64 23, .int .i64 16, .int .i64 22, .int .i64 17, .int .i64 28, .int .i64 18, .int .i64 24, .int .i64 19, .int .i64 25, .int .i64 20, .int .i64 31, .int .i64 21, .int .i64 14, .int .i64 23, .int .i64 15, .int .i64 24, .int .i64 33, .int .i64 25, .int .i64 19, .int .i64 31, .int .i64 21] 50)) (Tells ((w.alloc (.cells #[.bool false, .int .i64 2, .int .i32 r, .bool false] 31)).alloc (.cells #[.int .i64 0, .int .i64 17, .int .i64 1, .int .i64 7, .int .i64 2, .int .i64 4, .int .i64 4, .int .i64 9, .int .i64 5, .int .i64 8, .int .i64 6, .int .i64 3, .int .i64 7, .int .i64 26, .int .i64 8, .int .i64 10, .int .i64 127, .int .i64 10, .int .i64 10, .int .i64 2, .int .i64 13, .int .i64 2, .int .i64 11, .int .i64 13, .int .i64 12, .int .i64 27, .int .i64 14, .int .i64 23, .int .i64 16, .int .i64 22, .int .i64 17, .int .i64 28, .int .i64 18, .int .i64 24, .int .i64 19, .int .i64 25, .int .i64 20, .int .i64 31, .int .i64 21, .int .i64 14, .int .i64 23, .int .i64 15, .int .i64 24, .int .i64 33, .int .i64 25, .int .i64 19, .int .i64 31, .int .i64 21] 50)) (rowL ctl r)) := by
    have hp := pair_new (w.alloc (.cells #[.bool false, .int .i64 2, .int .i32 r, .bool false] 31)) ctl 50 #[.int .i64 0, .int .i64 17, .int .i64 1, .int .i64 7, .int .i64 2, .int .i64 4, .int .i64 4, .int .i64 9, .int .i64 5, .int .i64 8, .int .i64 6, .int .i64 3, .int .i64 7, .int .i64 26, .int .i64 8, .int .i64 10, .int .i64 127, .int .i64 10, .int .i64 10, .int .i64 2, .int .i64 13, .int .i64 2, .int .i64 11, .int .i64 13, .int .i64 12, .int .i64 27, .int .i64 14, .int .i64 23, .int .i64 16, .int .i64 22, .int .i64 17, .int .i64 28, .int .i64 18, .int .i64 24, .int .i64 19, .int .i64 25, .int .i64 20, .int .i64 31, .int .i64 21, .int .i64 14, .int .i64 23, .int .i64 15, .int .i64 24, .int .i64 33, .int .i64 25, .int .i64 19, .int .i64 31, .int .i64 21] rfl
    rw [World.size_alloc] at hp
    exact row_any _ 24 24 ctl _ rfl hp r (by decide)
  have C := Lib.hid C
  go_enter Tryd.func17, Tryd.ntmps17
  go_wp2_with fail
  (with_reducible refine C.out.mono ?_)
  rintro e w2 ⟨rfl, hb2⟩
  go_wp2
  go_ret
  exact ⟨rfl, (((Below.refl _ _).alloc (Nat.le_refl _) _).alloc (by simp) _).trans (hb2.mono (by simp; omega))⟩
include hw in
set_option maxHeartbeats 1000000 in
theorem us_1d (h : 48 ≤ r ∧ r ≤ 57) : Calls Tryd.prog 17 #[stk false 1 r true] w (Tells w (29)) := by
  have d1 : decide ((48 : Int) ≤ r) = true := decide_eq_true h.1
  have d2 : decide (r ≤ (57 : Int)) = true := decide_eq_true h.2
  clear h
  go_enter Tryd.func17, Tryd.ntmps17
  go_wp2
  go_ret
  exact ⟨rfl, (Below.refl _ _).alloc (Nat.le_refl _) _⟩
include hw in
set_option maxHeartbeats 1000000 in
theorem us_1lo (h : ¬ 48 ≤ r) : Calls Tryd.prog 17 #[stk false 1 r true] w (Tells w (rowL met r)) := by
  have d1 : decide ((48 : Int) ≤ r) = false := decide_eq_false h
  clear h
  have C : Calls Tryd.prog 19 #[.slice (some ⟨w.heap.size + 1, 0, none⟩) 6 6, .int .i64 r] ((w.alloc (.cells #[.bool false, .int .i64 1, .int .i32 r, .bool true] 31)).alloc (.cells #[.int .i64 45, .int .i64 30, .int .i64 98, .int .i64 6, .int .i64 102, .int .i64 5, .int .i64 100, .int .i64 11, .int .i64 119, .int .i64 16, .int .i64 121, .int .i64 20] 50)) (Tells ((w.alloc (.cells #[.bool false, .int .i64 1, .int .i32 r, .bool true] 31)).alloc (.cells #[.int .i64 45, .int .i64 30, .int .i64 98, .int .i64 6, .int .i64 102, .int .i64 5, .int .i64 100, .int .i64 11, .int .i64 119, .int .i64 16, .int .i64 121, .int .i64 20] 50)) (rowL met r)) := by
    have hp := pair_new (w.alloc (.cells #[.bool false, .int .i64 1, .int .i32 r, .bool true] 31)) met 50 #[.int .i64 45, .int .i64 30, .int .i64 98, .int .i64 6, .int .i64 102, .int .i64 5, .int .i64 100, .int .i64 11, .int .i64 119, .int .i64 16, .int .i64 121, .int .i64 20] rfl
    rw [World.size_alloc] at hp
    exact row_any _ 6 6 met _ rfl hp r (by decide)
  have C := Lib.hid C
  go_enter Tryd.func17, Tryd.ntmps17
  go_wp2_with fail
  (with_reducible refine C.out.mono ?_)
  rintro e w2 ⟨rfl, hb2⟩
  go_wp2
  go_ret
  exact ⟨rfl, (((Below.refl _ _).alloc (Nat.le_refl _) _).alloc (by simp) _).trans (hb2.mono (by simp; omega))⟩
include hw in
set_option maxHeartbeats 1000000 in
theorem us_1hi (h0 : 48 ≤ r) (h : ¬ r ≤ 57) : Calls Tryd.prog 17 #[stk false 1 r true] w (Tells w (rowL met r)) := by
  have d1 : decide ((48 : Int) ≤ r) = true := decide_eq_true h0
  have d2 : decide (r ≤ (57 : Int)) = false := decide_eq_false h
  clear h h0
  have C : Calls Tryd.prog 19 #[.slice (some ⟨w.heap.size + 1, 0, none⟩) 6 6, .int .i64 r] ((w.alloc (.cells #[.bool false, .int .i64 1, .int .i32 r, .bool true] 31)).alloc (.cells #[.int .i64 45, .int .i64 30, .int .i64 98, .int .i64 6, .int .i64 102, .int .i64 5, .int .i64 100, .int .i64 11, .int .i64 119, .int .i64 16, .int .i64 121, .int .i64 20] 50)) (Tells ((w.alloc (.cells #[.bool false, .int .i64 1, .int .i32 r, .bool true] 31)).alloc (.cells #[.int .i64 45, .int .i64 30, .int .i64 98, .int .i64 6, .int .i64 102, .int .i64 5, .int .i64 100, .int .i64 11, .int .i64 119, .int .i64 16, .int .i64 121, .int .i64 20] 50)) (rowL met r)) := by
    have hp := pair_new (w.alloc (.cells #[.bool false, .int .i64 1, .int .i32 r, .bool true] 31)) met 50 #[.int .i64 45, .int .i64 30, .int .i64 98, .int .i64 6, .int .i64 102, .int .i64 5, .int .i64 100, .int .i64 11, .int .i64 119, .int .i64 16, .int .i64 121, .int .i64 20] rfl
    rw [World.size_alloc] at hp
    exact row_any _ 6 6 met _ rfl hp r (by decide)
  have C := Lib.hid C
  go_enter Tryd.func17, Tryd.ntmps17
  go_wp2_with fail
  (with_reducible refine C.out.mono ?_)
  rintro e w2 ⟨rfl, hb2⟩
  go_wp2
  go_ret
  exact ⟨rfl, (((Below.refl _ _).alloc (Nat.le_refl _) _).alloc (by simp) _).trans (hb2.mono (by simp; omega))⟩
include hw in
set_option maxHeartbeats 1000000 in
theorem us_1 : Calls Tryd.prog 17 #[stk false 1 r false] w (Tells w (1)) := by
  go_enter Tryd.func17, Tryd.ntmps17
  go_wp2
  go_ret
  exact ⟨rfl, (Below.refl _ _).alloc (Nat.le_refl _) _⟩
include hw in
set_option maxHeartbeats 1000000 in
theorem us_0 (h4 : k ≠ 4) (h3 : k ≠ 3) (h2 : k ≠ 2) (h1 : k ≠ 1) : Calls Tryd.prog 17 #[stk false k r false] w (Tells w (0)) := by
  have q1 : (k == 1) = false := by simpa using h1
  have q2 : (k == 2) = false := by simpa using h2
  have q3 : (k == 3) = false := by simpa using h3
  have q4 : (k == 4) = false := by simpa using h4
  clear h1 h2 h3 h4
  go_enter Tryd.func17, Tryd.ntmps17
  go_wp2
  go_ret
  exact ⟨rfl, (Below.refl _ _).alloc (Nat.le_refl _) _⟩
include hw in
set_option maxHeartbeats 1000000 in
theorem us_0m (h4 : k ≠ 4) (h3 : k ≠ 3) (h2 : k ≠ 2) (h1 : k ≠ 1) : Calls Tryd.prog 17 #[stk false k r true] w (Tells w (0)) := by
  have q1 : (k == 1) = false := by simpa using h1
  have q2 : (k == 2) = false := by simpa using h2
  have q3 : (k == 3) = false := by simpa using h3
  have q4 : (k == 4) = false := by simpa using h4
  clear h1 h2 h3 h4
  go_enter Tryd.func17, Tryd.ntmps17
  go_wp2
  go_ret
  exact ⟨rfl, (Below.refl _ _).alloc (Nat.le_refl _) _⟩
include hw in
set_option maxHeartbeats 1000000 in
theorem us_3m : Calls Tryd.prog 17 #[stk false 3 r true] w (Tells w (0)) := by
  go_enter Tryd.func17, Tryd.ntmps17
  go_wp2
  go_ret
  exact ⟨rfl, (Below.refl _ _).alloc (Nat.le_refl _) _⟩
end

theorem us_any (s : Stk) (hs : Wf s) (w : World) : Calls Tryd.prog 17 #[sv s] w (Tells w (usualS s)) := by
  obtain ⟨p, k, r, m⟩ := s
  have hw : IntKind.i64.wrap r = r := wrap_i32 hs.2
  show Calls _ _ #[stk p k r m] w (Tells w (usual p k r m))
  unfold usual
  by_cases c4 : k = 4
  · subst c4
    rw [if_pos rfl]
    exact us_4 r m w hw p
  rw [if_neg c4]
  cases p
  · rw [if_neg (by simp)]
    by_cases c3 : k = 3 ∧ m = false
    · rw [if_pos c3]
      obtain ⟨rfl, rfl⟩ := c3
      exact us_3 r w hw
    rw [if_neg c3]
    by_cases c2 : k = 2 ∧ m = true
    · rw [if_pos c2]
      obtain ⟨rfl, rfl⟩ := c2
      exact us_2m r w hw
    rw [if_neg c2]
    by_cases c2' : k = 2
    · rw [if_pos c2']
      subst c2'
      cases m
      · exact us_2 r w hw
      · exact absurd ⟨rfl, rfl⟩ c2
    rw [if_neg c2']
    by_cases c1 : k = 1 ∧ m = true
    · rw [if_pos c1]
      obtain ⟨rfl, rfl⟩ := c1
      by_cases h0 : 48 ≤ r
      · by_cases h1 : r ≤ 57
        · rw [if_pos ⟨h0, h1⟩]
          exact us_1d r w hw ⟨h0, h1⟩
        · rw [if_neg (fun h => h1 h.2)]
          exact us_1hi r w hw h0 h1
      · rw [if_neg (fun h => h0 h.1)]
        exact us_1lo r w hw h0
    rw [if_neg c1]
    by_cases c1' : k = 1
    · rw [if_pos c1']
      subst c1'
      cases m
      · exact us_1 r w hw
      · exact absurd ⟨rfl, rfl⟩ c1
    rw [if_neg c1']
    cases m
    · exact us_0 k r w hw c4 (fun e => c3 ⟨e, rfl⟩) c2' c1'
    · by_cases c3' : k = 3
      · subst c3'
        exact us_3m r w hw
      · exact us_0m k r w hw c4 c3' c2' c1'
  · rw [if_pos rfl]
    cases m
    · rw [if_neg (by simp)]
      by_cases c2 : k = 2
      · subst c2
        rw [if_pos rfl]
        exact us_p2 r w hw
      rw [if_neg c2]
      by_cases c1 : k = 1
      · subst c1
        rw [if_pos rfl]
        exact us_p1 r w hw
      rw [if_neg c1]
      exact us_p0 k r w hw c4 c2 c1
    · rw [if_pos rfl]
      exact us_pm k r w hw c4
end Go.Proofs.YtpdjkphjpjbhgaaDoor

