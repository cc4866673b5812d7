/- macro: awake. -/
import Derived.Test.YtgdfcojgifgjcaaMcJ
namespace Go.Proofs.Ytgdfcojgifgjcaa
open Go.RowKit Go.Maps
set_option linter.unusedVariables false
set_option linter.unusedSimpArgs false
set_option maxRecDepth 100000

theorem wf_of {r : Int} (h1 : -2147483648 ≤ r) (h2 : r ≤ 2147483647) : (Lit.int .i32 r).wf = true := by
  have e1 : IntKind.i32.min = -2147483648 := by decide
  have e2 : IntKind.i32.max = 2147483647 := by decide
  simp [Lit.wf, e1, e2, h1, h2]
def Fa1 : Int → Option (List MSt) := setF (fun _ => none) 97 [st0 1 120 false 0, st0 0 0 true 98]
def Fa2 : Int → Option (List MSt) := setF Fa1 98 [st0 1 121 false 0]
def Fa3 : Int → Option (List MSt) := setF Fa2 98 [st0 0 0 true 97]
theorem ex_a2 (L : List (Int × Sv)) (hL : L.length = 2) : exX Fa2 L.length [] 97 0 [] = (0, 3, [⟨1, 120, false, []⟩, ⟨1, 121, false, []⟩]) := by rw [hL]; rfl
theorem ex_a3 (L : List (Int × Sv)) (hL : L.length = 3) : (exX Fa3 L.length [] 97 0 []).1 = 6 := by rw [hL]; rfl
abbrev stA (k r : Int) (call : Bool) (nm : Int) : Array Value := #[.int .i64 k, .int .i32 r, .bool false, .slice none 0 0, .bool call, .int .i32 nm]
/-- What awake keeps. -/
structure Aw (w : World) (m : Value) (X : World) : Prop where
  below : Below w.heap.size w X
  b : Blk X w.heap.size #[m]
  x : Blk X (w.heap.size + 1) (stA 1 120 false 0)
  y : Blk X (w.heap.size + 2) (stA 1 121 false 0)
theorem Aw.later {w X Y : World} {m : Value} (h : Aw w m X) (hb : Below X.heap.size X Y) : Aw w m Y := ⟨belowStep h.below hb, h.b.later hb h.b.1, h.x.later hb h.x.1, h.y.later hb h.y.1⟩
theorem Aw.put {w X : World} {m : Value} (h : Aw w m X) (m' : Value) : Aw w m' (X.setCell ⟨w.heap.size, 0, none⟩ m') :=
  ⟨h.below.setCell (p := ⟨w.heap.size, 0, none⟩) (Nat.le_refl _) _, h.b.set_ 0 (by simp) _, h.x.far (by show w.heap.size ≠ _; omega) _, h.y.far (by show w.heap.size ≠ _; omega) _⟩
theorem aw_start (w : World) (t u v : TypeId) : Aw w (.map none) (((w.alloc (.cells #[.map none] t)).alloc (.cells (stA 1 120 false 0) u)).alloc (.cells (stA 1 121 false 0) v)) := by
  have h := blk_three w #[.map none] (stA 1 120 false 0) (stA 1 121 false 0) t u v
  exact ⟨belPush (belPush (belAlloc _ _) _) _, h.1, h.2.1, h.2.2⟩

/-- A book of awake's, in new memory. -/
def New3 (w : World) (b : Nat) : Prop := w.heap.size + 3 ≤ b
theorem aw_big {w X : World} {m : Value} (h : Aw w m X) : w.heap.size + 3 ≤ X.heap.size := by have := h.y.1; omega
theorem cntB_le (n : Nat) (L : List (Int × Sv)) (s : Int) : cntB n L s ≤ n + 1 := by unfold cntB; split <;> omega

set_option maxHeartbeats 8000000 in
theorem awake_yes (w : World) : Calls Try.prog 9 #[] w fun e w' => e = .returned (.bool true) ∧ Below w.heap.size w w' := by
  have V0 := Lib.hid (aw_start w 24 32 32)
  have w97 : (Lit.int .i32 97).wf = true := wf_of (by omega) (by omega)
  have w98 : (Lit.int .i32 98).wf = true := wf_of (by omega) (by omega)
  have w0 : (Lit.int .i32 0).wf = true := wf_of (by omega) (by omega)
  go_enter Try.func9, Try.ntmps9
  go_upto_region 4 with fail
  refine at_world (Aw w (.map none)) V0.out ?_
  intro X hX
  have V1 := Lib.hid hX
  clear hX V0
  obtain ⟨y1, k1, j1⟩ := (show _ from V1.out.b)
  obtain ⟨y2, k2, j2⟩ := (show _ from V1.out.x)
  have C1 := Lib.hid (fun t => set_F (w := X.alloc (.cells (stA 1 120 false 0 ++ stA 0 0 true 98) t)) (bookS_nil _ (New3 w)) (name := 97) w97 (stM_new2 X t 1 120 false 0 0 0 true 98 w0 w98) (by decide) (by decide) (by decide))
  go_wp2_with fail
  refine (C1.out _).mono ?_
  rintro e w5 ⟨q5, x5, rfl, hb5, bel5⟩
  have V5 := Lib.hid (And.intro (V1.out.later ((belAlloc X _).trans (bel5.mono (by simp)))) (hb5.mono (S' := New3 w) fun b hb => by have := aw_big V1.out; unfold New3 at *; simp at hb; omega))
  clear hb5 bel5 C1 V1 y1 k1 j1 y2 k2 j2
  obtain ⟨y1, k1, j1⟩ := (show _ from V5.out.1.b)
  go_upto_region 5 with fail
  refine at_world (fun Y => Aw w (.map q5) Y ∧ BookS Y (New3 w) (.map q5) (cntB 0 [] 97) ([] ++ [(97, x5)]) Fa1) ⟨V5.out.1.put _, V5.out.2.far (p := ⟨w.heap.size, 0, none⟩) (by show ¬ (_ ≤ w.heap.size); omega) _⟩ ?_
  intro Y hY
  have VY := Lib.hid hY
  clear hY V5 y1 k1 j1
  obtain ⟨y1, k1, j1⟩ := (show _ from VY.out.1.b)
  obtain ⟨y2, k2, j2⟩ := (show _ from VY.out.1.y)
  have C2 := Lib.hid (fun t => set_F (w := Y.alloc (.cells (stA 1 121 false 0) t)) (VY.out.2.later (belAlloc Y _)) (name := 98) w98 (stM_new1 Y t 1 121 false 0 w0) (by decide) (by have := cntB_le 0 [] 97; omega) (by simp))
  go_wp2_with fail
  refine (C2.out _).mono ?_
  rintro e w6 ⟨q6, x6, rfl, hb6, bel6⟩
  have V6 := Lib.hid (And.intro (VY.out.1.later ((belAlloc Y _).trans (bel6.mono (by simp)))) (hb6.mono (S' := New3 w) fun b hb => by have := aw_big VY.out.1; unfold New3 at *; simp at hb; omega))
  clear hb6 bel6 C2 VY y1 k1 j1 y2 k2 j2
  obtain ⟨y1, k1, j1⟩ := (show _ from V6.out.1.b)
  go_upto_region 6 with fail
  refine at_world (fun Y => Aw w (.map q6) Y ∧ BookS Y (New3 w) (.map q6) (cntB (cntB 0 [] 97) ([] ++ [(97, x5)]) 98) (([] ++ [(97, x5)]) ++ [(98, x6)]) Fa2) ⟨V6.out.1.put _, V6.out.2.far (p := ⟨w.heap.size, 0, none⟩) (by show ¬ (_ ≤ w.heap.size); omega) _⟩ ?_
  intro Z hZ
  have VZ := Lib.hid hZ
  clear hZ V6 y1 k1 j1
  obtain ⟨y1, k1, j1⟩ := (show _ from VZ.out.1.b)
  have C3 := Lib.hid (Expand_any VZ.out.2.any (nm := 97) w97)
  rw [ex_a2 _ (by rfl)] at C3
  go_wp2_with fail
  refine C3.out.mono ?_
  rintro e w7 ⟨⟨A7, n7, c7, rfl, h7, _⟩, bel7⟩
  obtain ⟨h7k, h7n⟩ := h7 rfl
  dsimp only at h7k h7n
  replace h7n : n7 = 2 := h7n
  subst h7n
  have V7 := Lib.hid (And.intro (VZ.out.1.later bel7) (And.intro (VZ.out.2.later bel7) h7k))
  clear h7 h7k bel7 C3 VZ y1 k1 j1
  obtain ⟨y1, k1, j1⟩ := (show _ from V7.out.1.b)
  have C4 := Lib.hid (fun t => set_F (w := w7.alloc (.cells (stA 0 0 true 97) t)) (V7.out.2.1.later (belAlloc w7 _)) (name := 98) w98 (stM_new1 w7 t 0 0 true 97 w97) (by decide) (by have h1 := cntB_le 0 [] 97; have h2 := cntB_le (cntB 0 [] 97) ([] ++ [(97, x5)]) 98; omega) (by simp))
  go_wp2_with fail
  refine (C4.out _).mono ?_
  rintro e w8 ⟨q8, x8, rfl, hb8, bel8⟩
  have V8 := Lib.hid (And.intro (V7.out.1.later ((belAlloc w7 _).trans (bel8.mono (by simp)))) (And.intro (V7.out.2.2.later ((belAlloc w7 _).trans (bel8.mono (by simp)))) hb8.any))
  clear hb8 bel8 C4 V7 y1 k1 j1
  go_upto_region 8 with fail
  refine at_world (fun Y => Below w.heap.size w Y ∧ Blk Y w8.heap.size #[.map q8] ∧ KyV Y (.slice A7 2 c7) [⟨1, 120, false, []⟩, ⟨1, 121, false, []⟩] ∧ BookF Y (.map q8) _ _ Fa3) ⟨belowStep V8.out.1.below (belAlloc _ _), blk_new _ _ _, V8.out.2.1.later (belAlloc _ _), V8.out.2.2.later (belAlloc _ _)⟩ ?_
  obtain ⟨g8, hg8⟩ : ∃ g8, w8.heap.size = g8 := ⟨_, rfl⟩
  rw [hg8]
  clear hg8
  intro U hU
  have VU := Lib.hid hU
  clear hU V8
  obtain ⟨y1, k1, j1⟩ := (show _ from VU.out.2.1)
  have C5 := Lib.hid (Expand_any VU.out.2.2.2 (nm := 97) w97)
  go_wp2_with fail
  refine C5.out.mono ?_
  rintro e w9 ⟨⟨A9, n9, c9, he, _, _⟩, bel9⟩
  rw [ex_a3 _ rfl] at he
  subst he
  have V9 := Lib.hid (And.intro (belowStep VU.out.1 bel9) (VU.out.2.2.1.later bel9))
  clear bel9 C5 VU y1 k1 j1
  have C6 := Lib.hid (fun t => samek_yes (w := w9.alloc (.cells #[.int .i64 1, .int .i32 120, .bool false, .slice none 0 0, .int .i64 1, .int .i32 121, .bool false, .slice none 0 0] t)) (V9.out.2.later (belAlloc w9 _)) (kyV_new2 w9 t 1 120 1 121) (by simp) (by intro k hk; simp at hk; rcases hk with rfl | rfl <;> simp))
  go_wp2_with (go_at_call 15; refine (C6.out _).mono ?_; rintro e w10 ⟨rfl, q10, rfl⟩)
  go_ret
  exact ⟨rfl, (V9.out.1.trans ((belAlloc w9 _).mono V9.out.1.size)).trans (selfDrew _ _ |>.mono (by have := V9.out.1.size; simp [World.size_alloc]; omega))⟩
end Go.Proofs.Ytgdfcojgifgjcaa
