/- ring: the chapter's example. -/
import Derived.Test.YtnninkbkndddhaaRing5
namespace Go.Proofs.Ytnninkbkndddhaa
open Go.RowKit
set_option linter.unusedVariables false
set_option linter.unusedSimpArgs false

/-- True is handed back; nothing that was there has turned. -/
def Yes (w : World) (e : Ending) (w' : World) : Prop := e = .returned (.bool true) ∧ Below w.heap.size w w'

theorem same_txt (u v : Value) (l : List Int) (w : World) (hu : Txt w u l) (hv : Txt w v l) : Calls Try.prog 8 #[u, v] w fun e w' => e = .returned (.bool true) ∧ ∃ k, w' = w.drewN k := by
  obtain ⟨A, c, rfl, hA, _, h1, h2, _⟩ := hu
  obtain ⟨B, d, rfl, hB, _⟩ := hv
  unfold maxLen at h2
  exact same_yes A B l.length c d (fun j => l.getD j 0) w (by omega) hA hB
theorem same_far (u v : Value) (l : List Int) (w : World) (hu : Txt w u l) (hv : Txt w v l) : Calls Try.prog 8 #[u, v] w fun e w' => e = .returned (.bool true) ∧ Below w.heap.size w w' := by
  refine (same_txt u v l w hu hv).mono fun e w' h => ?_
  obtain ⟨he, k, rfl⟩ := h
  exact ⟨he, below_drewN (Below.refl _ _) _⟩

/-- One scalar, laid anew. -/
theorem txt_new (w : World) (x : Int) (t : TypeId) : Txt (w.alloc (.cells #[.int .i32 x] t)) (.slice (some ⟨w.heap.size, 0, none⟩) 1 1) [x] :=
  ⟨_, _, rfl, rd_new w _ t 1 _ fun j hj => (by obtain rfl : j = 0 := (by omega); rfl), (fun e => by cases e), Nat.le_refl _, by decide, fun _ _ _ => trivial⟩
theorem txt_new1 (w : World) (o : Obj) (x : Int) (t : TypeId) : Txt ((w.alloc o).alloc (.cells #[.int .i32 x] t)) (.slice (some ⟨w.heap.size + 1, 0, none⟩) 1 1) [x] := by
  have h := txt_new (w.alloc o) x t
  rw [World.size_alloc] at h
  exact h
theorem txt_new2 (w : World) (x y : Int) (t : TypeId) : Txt (w.alloc (.cells #[.int .i32 x, .int .i32 y] t)) (.slice (some ⟨w.heap.size, 0, none⟩) 2 2) [x, y] :=
  ⟨_, _, rfl, rd_new w _ t 2 _ fun j hj => (by obtain rfl | rfl : j = 0 ∨ j = 1 := (by omega) <;> rfl), (fun e => by cases e), Nat.le_refl _, by decide, fun _ _ _ => trivial⟩

/-- Behind block g. -/
def Aft (g b : Nat) : Prop := g < b
theorem aft_new {w : World} {g : Nat} (h : g < w.heap.size) {b : Nat} (hb : New w (Aft g) b) : Aft g b := hb.elim (fun h' => Nat.lt_of_lt_of_le h h') id

/-- A variable of the caller's at block w.heap.size holds a ring. -/
structure Var (w : World) (v : Value) (k : Nat) (L : List (List Int)) (X : World) : Prop where
  blk : Blk X w.heap.size #[v, .int .i64 k]
  ts : TxtsS X (Aft w.heap.size) v L
  below : Below w.heap.size w X

theorem Var.later {w X Y : World} {v : Value} {k : Nat} {L : List (List Int)} (h : Var w v k L X) (hb : Below X.heap.size X Y) : Var w v k L Y := ⟨h.blk.later hb h.blk.1, h.ts.later hb, h.below.trans (hb.mono h.below.size)⟩
theorem var_new (w : World) (t : TypeId) : Var w (.slice none 0 0) 0 [] (w.alloc (.cells #[.slice none 0 0, .int .i64 0] t)) := ⟨blk_new w _ t, Txts.nil _ _, (Below.refl _ _).alloc (Nat.le_refl _) _⟩
theorem Var.store {w X Y : World} {v v' : Value} {k k' : Nat} {L L' : List (List Int)} (h : Var w v k L X) (hb : Below X.heap.size X Y) (ht : TxtsS Y (Aft w.heap.size) v' L') : Var w v' k' L' ((Y.setCell ⟨w.heap.size, 0, none⟩ v').setCell ⟨w.heap.size, 1, none⟩ (.int .i64 k')) := by
  have hB := ((h.blk.later hb h.blk.1).set_ 0 (by simp) v').set_ 1 (by simp) (.int .i64 k')
  refine ⟨hB, ?_, ((h.below.trans (hb.mono h.below.size)).setCell (p := ⟨w.heap.size, 0, none⟩) (Nat.le_refl _) _).setCell (p := ⟨w.heap.size, 1, none⟩) (Nat.le_refl _) _⟩
  exact (ht.far (p := ⟨w.heap.size, 0, none⟩) (fun e => Nat.lt_irrefl _ e) v').far (p := ⟨w.heap.size, 1, none⟩) (fun e => Nat.lt_irrefl _ e) _

theorem top_zero (u : Value) (l : List Int) (T : List (List Int)) (w : World) (hL : Txts w u (l :: T)) (hl : l.length ≤ 1000000) : Calls Try.prog 12 #[.agg #[u, .int .i64 0]] w (TellsTop l true w) :=
  top_some u 0 (l :: T) w hL (by simp) hl
theorem top_second (u : Value) (l m : List Int) (T : List (List Int)) (w : World) (hL : Txts w u (l :: m :: T)) (hl : m.length ≤ 1000000) : Calls Try.prog 12 #[.agg #[u, .int .i64 1]] w (TellsTop m true w) :=
  top_some u 1 (l :: m :: T) w hL (by simp) hl
theorem turn_two (u : Value) (l m : List Int) (S : Nat → Prop) (w : World) (hL : TxtsS w S u [l, m]) : Calls Try.prog 13 #[.agg #[u, .int .i64 0]] w
    fun e w' => ∃ A n c, e = .returned (.agg #[.slice A n c, .int .i64 1]) ∧ Txts w' (.slice A n c) [l, m] ∧ Below w.heap.size w w' := by
  refine (turn_some u 0 [l, m] w S hL (by simp) (by simp) (by simp)).mono fun e w' h => ?_
  obtain ⟨A, n, c, he, ht, hb⟩ := h
  exact ⟨A, n, c, he, ht.any, hb⟩

set_option maxHeartbeats 4000000 in
theorem awake_yes (w : World) : Calls Try.prog 9 #[] w (Yes w) := by
  have V0 := Lib.hid (var_new w 24)
  go_enter Try.func9, Try.ntmps9
  go_wp2_with fail
  have C1 := Lib.hid (add_any (.slice none 0 0) (.slice (some ⟨w.heap.size + 1, 0, none⟩) 1 1) [] [97] 0 (Aft w.heap.size) ((w.alloc (.cells #[.slice none 0 0, .int .i64 0] 24)).alloc (.cells #[.int .i32 97] 21)) (Txts.nil _ _) (by simp) (txt_new1 _ _ _ _) (by simp))
  (with_reducible refine C1.out.mono ?_)
  rintro e w1 ⟨A1, n1, c1, rfl, ht1, hb1⟩
  have V1 := Lib.hid ((V0.out.later (below_one _ _)).later hb1)
  have T1 : Hid (TxtsS w1 (Aft w.heap.size) (.slice A1 n1 c1) [[97]]) := Lib.hid (ht1.mono fun b hb => aft_new (g := w.heap.size) (by simp only [World.size_alloc]; omega) hb)
  clear ht1 hb1
  go_wp2_with fail
  have C2 := Lib.hid (add_any (.slice A1 n1 c1) (.slice (some ⟨w1.heap.size, 0, none⟩) 1 1) [[97]] [98] 0 (Aft w.heap.size) (w1.alloc (.cells #[.int .i32 98] 21)) (T1.out.later (below_one _ _)) (by simp) (txt_new _ _ _) (by simp))
  (with_reducible refine C2.out.mono ?_)
  rintro e w2 ⟨A2, n2, c2, rfl, ht2, hb2⟩
  have T2 : Hid (TxtsS w2 (Aft w.heap.size) (.slice A2 n2 c2) [[98], [97]]) := Lib.hid (ht2.mono fun b hb => aft_new (g := w.heap.size) (by simp only [World.size_alloc]; have := V1.out.blk.1; omega) hb)
  have V2 := Lib.hid ((V1.out.later (below_one _ _)).later hb2)
  have V3 : Hid (Var w (.slice A2 n2 c2) 0 [[98], [97]] ((w2.setCell ⟨w.heap.size, 0, none⟩ (.slice A2 n2 c2)).setCell ⟨w.heap.size, 1, none⟩ (.int .i64 0))) := Lib.hid ((V1.out.later (below_one _ _)).store hb2 T2.out)
  obtain ⟨y2, k2, j2⟩ := (show _ from V2.out.blk)
  clear ht2 hb2
  go_wp2_with fail
  clear y2 k2 j2
  refine (top_zero _ _ _ _ V3.out.ts.any (by simp)).mono ?_
  rintro e w3 ⟨A3, n3, c3, rfl, ht3, hb3⟩
  have V4 := Lib.hid (V3.out.later hb3)
  have S3 := Lib.hid ht3
  obtain ⟨y3, k3, j3⟩ := (show _ from V4.out.blk)
  clear ht3 hb3
  go_wp2_with fail
  refine (turn_two _ _ _ _ _ V4.out.ts).mono ?_
  rintro e w4 ⟨A4, n4, c4, rfl, ht4, hb4⟩
  have V5 := Lib.hid (V4.out.later hb4)
  have S4 := Lib.hid (And.intro (S3.out.later hb4) ht4)
  clear y3 k3 j3
  obtain ⟨y4, k4, j4⟩ := (show _ from V5.out.blk)
  clear ht4 hb4
  go_wp2_with fail
  refine (top_second _ _ _ _ _ S4.out.2 (by simp)).mono ?_
  rintro e w5 ⟨A5, n5, c5, rfl, ht5, hb5⟩
  have V6 := Lib.hid (V5.out.later hb5)
  have S5 := Lib.hid (And.intro (S4.out.1.later hb5) ht5)
  clear y4 k4 j4
  obtain ⟨y5, k5, j5⟩ := (show _ from V6.out.blk)
  clear ht5 hb5
  go_wp2_with fail
  have C6 := Lib.hid (join_any (.slice A2 n2 c2) (.slice (some ⟨w5.heap.size, 0, none⟩) 1 1) [[98], [97]] [99] 0 false (Aft w.heap.size) (w5.alloc (.cells #[.int .i32 99] 21)) (V6.out.ts.later (below_one _ _)) (txt_new _ _ _) (by simp) (by simp))
  (with_reducible refine C6.out.mono ?_)
  rintro e w6 ⟨A6, n6, c6, rfl, ht6, hb6⟩
  have hb6' := one_later hb6
  have V7 := Lib.hid (V6.out.later hb6')
  have S6 := Lib.hid (And.intro (S5.out.1.later hb6') (And.intro (S5.out.2.later hb6') ht6.any))
  clear y5 k5 j5 ht6 hb6 hb6'
  go_wp2_with fail
  refine (top_zero _ _ _ _ S6.out.2.2 (by simp)).mono ?_
  rintro e w7 ⟨A7, n7, c7, rfl, ht7, hb7⟩
  have S7 := Lib.hid (And.intro (S6.out.1.later hb7) (And.intro (S6.out.2.1.later hb7) (And.intro ht7 (V7.out.below.trans (hb7.mono V7.out.below.size)))))
  clear ht7 hb7
  go_wp2_with fail
  have C7 := Lib.hid (same_far (.slice A3 n3 c3) (.slice (some ⟨w7.heap.size, 0, none⟩) 1 1) [98] (w7.alloc (.cells #[.int .i32 98] 21)) (S7.out.1.later (below_one _ _)) (txt_new _ _ _))
  (with_reducible refine C7.out.mono ?_)
  rintro e w8 ⟨rfl, hb8⟩
  have hb8' := one_later hb8
  have S8 := Lib.hid (And.intro (S7.out.2.1.later hb8') (And.intro (S7.out.2.2.1.later hb8') (S7.out.2.2.2.trans (hb8'.mono S7.out.2.2.2.size))))
  clear hb8 hb8'
  go_wp2_with fail
  have C8 := Lib.hid (same_far (.slice A5 n5 c5) (.slice (some ⟨w8.heap.size, 0, none⟩) 1 1) [97] (w8.alloc (.cells #[.int .i32 97] 21)) (S8.out.1.later (below_one _ _)) (txt_new _ _ _))
  (with_reducible refine C8.out.mono ?_)
  rintro e w9 ⟨rfl, hb9⟩
  have hb9' := one_later hb9
  have S9 := Lib.hid (And.intro (S8.out.2.1.later hb9') (S8.out.2.2.trans (hb9'.mono S8.out.2.2.size)))
  clear hb9 hb9'
  go_wp2_with fail
  have C9 := Lib.hid (same_far (.slice A7 n7 c7) (.slice (some ⟨w9.heap.size, 0, none⟩) 2 2) [98, 99] (w9.alloc (.cells #[.int .i32 98, .int .i32 99] 21)) (S9.out.1.later (below_one _ _)) (txt_new2 _ _ _ _))
  (with_reducible refine C9.out.mono ?_)
  rintro e w10 ⟨rfl, hb10⟩
  have hb10' := one_later hb10
  go_wp2
  go_ret
  exact ⟨rfl, S9.out.2.trans (hb10'.mono S9.out.2.size)⟩

/-! ### RingMost -/
def mostL (k : Nat) : List (List Int) := ((List.range k).map fun (j : Nat) => [(j : Int)]).reverse.take 60
theorem mostL_succ (k : Nat) : [(k : Int)] :: (mostL k).take 59 = mostL (k + 1) := by
  simp only [mostL, List.range_succ, List.map_append, List.map_cons, List.map_nil, List.reverse_append, List.reverse_cons, List.reverse_nil, List.nil_append, List.cons_append, List.take_take]
  rfl
theorem mostL_len (k : Nat) : (mostL k).length = min 60 k := by simp [mostL]
theorem mostL_at (k j : Nat) (h : j < min 60 k) : (mostL k).getD j [] = [((k - 1 - j : Nat) : Int)] := by
  have hj : j < k := by omega
  have h60 : j < 60 := by omega
  simp only [mostL, List.getD, List.getElem?_take, h60, if_true]
  rw [List.getElem?_reverse (by simpa using hj)]
  simp only [List.length_map, List.length_range, List.getElem?_map]
  rw [List.getElem?_range (by omega)]
  rfl

end Go.Proofs.Ytnninkbkndddhaa
