/- shift: Keep, Of, awake. -/
import Derived.Test.YtknanodojdamlaaSh2
namespace Go.Proofs.Ytknanodojdamlaa
open Go.RowKit
set_option linter.unusedVariables false
set_option linter.unusedSimpArgs false

theorem below_two (w : World) (a b : Obj) : Below w.heap.size w ((w.alloc a).alloc b) := ((Below.refl _ _).alloc (Nat.le_refl _) _).alloc (by simp [World.size_alloc]) _
theorem below_three (w : World) (a b c : Obj) : Below w.heap.size w (((w.alloc a).alloc b).alloc c) := (below_two w a b).alloc (by simp [World.size_alloc]; omega) _

def KeepIs (k : Int) (w : World) (e : Ending) (w' : World) : Prop := e = .returned (.int .i64 k) ∧ Below w.heap.size w w'
theorem keep1 (w : World) : Calls Try.prog 12 #[.agg #[.int .i64 1, .int .i64 3, .int .i64 2], .int .i64 1] w (KeepIs 1 w) := by
  go_enter Try.func12, Try.ntmps12
  go_wp2
  go_ret
  exact ⟨rfl, (Below.refl _ _).alloc (Nat.le_refl _) _⟩
theorem keep2 (w : World) : Calls Try.prog 12 #[.agg #[.int .i64 1, .int .i64 3, .int .i64 2], .int .i64 2] w (KeepIs 1 w) := by
  go_enter Try.func12, Try.ntmps12
  go_wp2
  go_ret
  exact ⟨rfl, (Below.refl _ _).alloc (Nat.le_refl _) _⟩
theorem keep3 (w : World) : Calls Try.prog 12 #[.agg #[.int .i64 1, .int .i64 3, .int .i64 2], .int .i64 3] w (KeepIs 2 w) := by
  go_enter Try.func12, Try.ntmps12
  go_wp2
  go_ret
  exact ⟨rfl, (Below.refl _ _).alloc (Nat.le_refl _) _⟩
theorem keep4 (w : World) : Calls Try.prog 12 #[.agg #[.int .i64 1, .int .i64 3, .int .i64 2], .int .i64 4] w (KeepIs 3 w) := by
  go_enter Try.func12, Try.ntmps12
  go_wp2
  go_ret
  exact ⟨rfl, (Below.refl _ _).alloc (Nat.le_refl _) _⟩

theorem txt_blk {X : World} {g o n c : Nat} {cs : Array Value} {l : List Int} (h : Blk X g cs) (hl : l.length = n) (hn : n ≤ c) (hc : c ≤ maxLen) (hx : ∀ j, j < n → cs[o + j]? = some (liR l j)) : Txt X (.slice (some ⟨g, o, none⟩) n c) l := by
  subst hl
  exact ⟨_, _, rfl, fun j hj => ⟨g, o, rfl, h.1, (h.2.1 _).trans (hx j hj)⟩, (fun e => by cases e), hn, hc, fun _ _ _ => trivial⟩

set_option maxHeartbeats 1000000 in
theorem of_is (g h : Nat) (w : World) : Calls Try.prog 11 #[.slice (some ⟨g, 0, none⟩) 4 4, .slice (some ⟨h, 0, none⟩) 3 3, .agg #[.int .i64 1, .int .i64 3, .int .i64 2]] w fun e w' => e = .returned (.agg #[.int .i64 1, .slice (some ⟨g, 1, none⟩) 2 2, .slice (some ⟨h, 1, none⟩) 1 1]) ∧ Below w.heap.size w w' := by
  go_enter Try.func11, Try.ntmps11
  go_wp2
  refine at_world (fun X => Blk X w.heap.size #[.int .i64 1, .int .i64 3, .int .i64 2] ∧ Blk X (w.heap.size + 1) #[.int .i64 0, .slice none 0 0, .slice none 0 0] ∧ Below w.heap.size w X) ?_ ?_
  · have h2 := blk_new (w.alloc (.cells #[.int .i64 1, .int .i64 3, .int .i64 2] 34)) #[.int .i64 0, .slice none 0 0, .slice none 0 0] 24
    rw [World.size_alloc] at h2
    exact ⟨(blk_new w _ _).alloc _, h2, below_two w _ _⟩
  rintro X ⟨HB, HC, HW⟩
  have HBW := Lib.hid (And.intro HB (And.intro HC HW))
  obtain ⟨y0, k0, j0⟩ := (show _ from HB)
  obtain ⟨y1, k1, j1⟩ := (show _ from HC)
  clear HB HC HW
  go_still_tail 18, (by kernel_rfl)
  change wpList _ _ _ _ _ X.drew
  clear y0 k0 j0 y1 k1 j1
  refine at_world (fun Y => Blk Y (w.heap.size + 1) #[.int .i64 0, .slice none 0 0, .slice none 0 0] ∧ Below w.heap.size w Y) ⟨HBW.out.2.1.drew, HBW.out.2.2.drew⟩ ?_
  rintro Y ⟨HC, HW⟩
  have HH := Lib.hid (And.intro HC HW)
  obtain ⟨y1, k1, j1⟩ := (show _ from HC)
  clear HC HW
  go_wp2
  refine at_world (fun Z => Blk Z (w.heap.size + 1) #[.int .i64 1, .slice (some ⟨g, 1, none⟩) 2 2, .slice (some ⟨h, 1, none⟩) 1 1] ∧ Below w.heap.size w Z) ?_ ?_
  · exact ⟨((HH.out.1.set_ 0 (by simp) _).set_ 1 (by simp) _).set_ 2 (by simp) _, ((HH.out.2.setCell (p := ⟨w.heap.size + 1, 0, none⟩) (Nat.le_succ _) _).setCell (p := ⟨w.heap.size + 1, 1, none⟩) (Nat.le_succ _) _).setCell (p := ⟨w.heap.size + 1, 2, none⟩) (Nat.le_succ _) _⟩
  rintro Z ⟨⟨_, x, _⟩, hX⟩
  have x0 := x 0
  have x1 := x 1
  have x2 := x 2
  refine bodyPost_ret (v := .agg #[.int .i64 1, .slice (some ⟨g, 1, none⟩) 2 2, .slice (some ⟨h, 1, none⟩) 1 1]) (by simp [results, Try.results11, go_sem, x0, x1, x2]) rfl ⟨rfl, hX⟩

set_option maxHeartbeats 1000000 in
theorem awake_yes (w : World) : Calls Try.prog 7 #[] w fun e w' => e = .returned (.bool true) ∧ Below w.heap.size w w' := by
  have B0 := Lib.hid (blk_three w #[.int .i64 1, .int .i64 3, .int .i64 2] #[.int .i32 97, .int .i32 98, .int .i32 99, .int .i32 100] #[.int .i32 97, .int .i32 88, .int .i32 100] 34 21 21)
  go_enter Try.func7, Try.ntmps7
  go_wp2_with fail
  have C1 := Lib.hid (of_is (w.heap.size + 1) (w.heap.size + 1 + 1) (((w.alloc (.cells #[.int .i64 1, .int .i64 3, .int .i64 2] 34)).alloc (.cells #[.int .i32 97, .int .i32 98, .int .i32 99, .int .i32 100] 21)).alloc (.cells #[.int .i32 97, .int .i32 88, .int .i32 100] 21)))
  (with_reducible refine C1.out.mono ?_)
  rintro e w1 ⟨rfl, hb1⟩
  have B1 : Hid (Blk w1 w.heap.size #[.int .i64 1, .int .i64 3, .int .i64 2] ∧ Blk w1 (w.heap.size + 1) #[.int .i32 97, .int .i32 98, .int .i32 99, .int .i32 100] ∧ Blk w1 (w.heap.size + 1 + 1) #[.int .i32 97, .int .i32 88, .int .i32 100] ∧ Below w.heap.size w w1) :=
    Lib.hid ⟨B0.out.1.later hb1 B0.out.1.1, B0.out.2.1.later hb1 B0.out.2.1.1, B0.out.2.2.later hb1 B0.out.2.2.1, (below_three w _ _ _).trans (hb1.mono (below_three w _ _ _).size)⟩
  clear hb1
  obtain ⟨y1, k1, j1⟩ := (show _ from B1.out.1)
  go_wp2_with fail
  have C2 := Lib.hid (do_yes 1 (.slice (some ⟨w.heap.size + 1, 1, none⟩) 2 2) (.slice (some ⟨w.heap.size + 1 + 1, 1, none⟩) 1 1) (.slice (some ⟨w1.heap.size + 1, 0, none⟩) 4 4) [98, 99] [88] [97, 98, 99, 100] ((w1.alloc (.cells #[.int .i64 1, .slice (some ⟨w.heap.size + 1, 1, none⟩) 2 2, .slice (some ⟨w.heap.size + 1 + 1, 1, none⟩) 1 1] 24)).alloc (.cells #[.int .i32 97, .int .i32 98, .int .i32 99, .int .i32 100] 21)) (by decide)
    (by
      have h := blk_new (w1.alloc (.cells #[.int .i64 1, .slice (some ⟨w.heap.size + 1, 1, none⟩) 2 2, .slice (some ⟨w.heap.size + 1 + 1, 1, none⟩) 1 1] 24)) #[.int .i32 97, .int .i32 98, .int .i32 99, .int .i32 100] 21
      rw [World.size_alloc] at h
      exact txt_blk h rfl (Nat.le_refl _) (by decide) fun j hj => by obtain rfl | rfl | rfl | rfl : j = 0 ∨ j = 1 ∨ j = 2 ∨ j = 3 := (by omega) <;> rfl)
    (txt_blk ((B1.out.2.1.alloc _).alloc _) rfl (Nat.le_refl _) (by decide) fun j hj => by obtain rfl | rfl : j = 0 ∨ j = 1 := (by omega) <;> rfl)
    (txt_blk ((B1.out.2.2.1.alloc _).alloc _) rfl (Nat.le_refl _) (by decide) fun j hj => by obtain rfl : j = 0 := (by omega); rfl)
    (by decide) (by decide) (by decide) rfl)
  clear y1 k1 j1
  simp only [show ((1 : Nat) : Int) = 1 from rfl] at C2
  (with_reducible refine C2.out.mono ?_)
  rintro e w2 ⟨A2, n2, c2, rfl, ht2, hb2⟩
  have B2 : Hid (Blk w2 w.heap.size #[.int .i64 1, .int .i64 3, .int .i64 2] ∧ Txt w2 (.slice A2 n2 c2) [97, 88, 100] ∧ Below w.heap.size w w2) :=
    Lib.hid ⟨((B1.out.1.alloc _).alloc _).later hb2 ((B1.out.1.alloc _).alloc _).1, ht2, B1.out.2.2.2.trans (((below_two w1 _ _).trans (hb2.mono (below_two w1 _ _).size)).mono B1.out.2.2.2.size)⟩
  clear ht2 hb2
  obtain ⟨y2, k2, j2⟩ := (show _ from B2.out.1)
  go_wp2_with fail
  have C3 := Lib.hid (keep1 w2)
  (with_reducible refine C3.out.mono ?_)
  rintro e w3 ⟨rfl, hb3⟩
  have B3 : Hid (Blk w3 w.heap.size #[.int .i64 1, .int .i64 3, .int .i64 2] ∧ Txt w3 (.slice A2 n2 c2) [97, 88, 100] ∧ Below w.heap.size w w3) :=
    Lib.hid ⟨B2.out.1.later hb3 B2.out.1.1, B2.out.2.1.later hb3, B2.out.2.2.trans (hb3.mono B2.out.2.2.size)⟩
  clear hb3 y2 k2 j2
  obtain ⟨y3, k3, j3⟩ := (show _ from B3.out.1)
  go_wp2_with fail
  have C4 := Lib.hid (keep2 w3)
  (with_reducible refine C4.out.mono ?_)
  rintro e w4 ⟨rfl, hb4⟩
  have B4 : Hid (Blk w4 w.heap.size #[.int .i64 1, .int .i64 3, .int .i64 2] ∧ Txt w4 (.slice A2 n2 c2) [97, 88, 100] ∧ Below w.heap.size w w4) :=
    Lib.hid ⟨B3.out.1.later hb4 B3.out.1.1, B3.out.2.1.later hb4, B3.out.2.2.trans (hb4.mono B3.out.2.2.size)⟩
  clear hb4 y3 k3 j3
  obtain ⟨y4, k4, j4⟩ := (show _ from B4.out.1)
  go_wp2_with fail
  have C5 := Lib.hid (keep3 w4)
  (with_reducible refine C5.out.mono ?_)
  rintro e w5 ⟨rfl, hb5⟩
  have B5 : Hid (Blk w5 w.heap.size #[.int .i64 1, .int .i64 3, .int .i64 2] ∧ Txt w5 (.slice A2 n2 c2) [97, 88, 100] ∧ Below w.heap.size w w5) :=
    Lib.hid ⟨B4.out.1.later hb5 B4.out.1.1, B4.out.2.1.later hb5, B4.out.2.2.trans (hb5.mono B4.out.2.2.size)⟩
  clear hb5 y4 k4 j4
  obtain ⟨y5, k5, j5⟩ := (show _ from B5.out.1)
  go_wp2_with fail
  have C6 := Lib.hid (keep4 w5)
  (with_reducible refine C6.out.mono ?_)
  rintro e w6 ⟨rfl, hb6⟩
  have B6 : Hid (Blk w6 w.heap.size #[.int .i64 1, .int .i64 3, .int .i64 2] ∧ Txt w6 (.slice A2 n2 c2) [97, 88, 100] ∧ Below w.heap.size w w6) :=
    Lib.hid ⟨B5.out.1.later hb6 B5.out.1.1, B5.out.2.1.later hb6, B5.out.2.2.trans (hb6.mono B5.out.2.2.size)⟩
  clear hb6 y5 k5 j5
  obtain ⟨y6, k6, j6⟩ := (show _ from B6.out.1)
  go_wp2_with fail
  have C7 := Lib.hid (same_is (.slice A2 n2 c2) (.slice (some ⟨w6.heap.size, 0, none⟩) 3 3) [97, 88, 100] [97, 88, 100] (w6.alloc (.cells #[.int .i32 97, .int .i32 88, .int .i32 100] 21)) (B6.out.2.1.later ((Below.refl _ _).alloc (Nat.le_refl _) _)) (txt_blk (blk_new _ _ _) rfl (Nat.le_refl _) (by decide) fun j hj => by obtain rfl | rfl | rfl : j = 0 ∨ j = 1 ∨ j = 2 := (by omega) <;> rfl))
  simp only [decide_true] at C7
  (with_reducible refine C7.out.mono ?_)
  rintro e w7 ⟨rfl, m, rfl⟩
  clear y6 k6 j6
  go_wp2
  go_ret
  exact ⟨rfl, below_drewN (B6.out.2.2.trans (((Below.refl _ _).alloc (Nat.le_refl _) _).mono B6.out.2.2.size)) _⟩
end Go.Proofs.Ytknanodojdamlaa
