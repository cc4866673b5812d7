/- gap: awake. -/
import Derived.Test.YtganehhcnflgaaaGapS
namespace Go.Proofs.Ytganehhcnflgaaa
open Go.RowKit
set_option linter.unusedVariables false
set_option linter.unusedSimpArgs false

abbrev Any : Nat → Prop := fun _ => True
theorem int_blk {X : World} {g o n c : Nat} {cs : Array Value} {l : List Int} (h : Blk X g cs) (hl : l.length = n) (hn : n ≤ c) (hc : c ≤ maxLen) (hx : ∀ j, j < n → cs[o + j]? = some (liI l j)) : IntS X Any (.slice (some ⟨g, o, none⟩) n c) l := by
  subst hl
  exact ⟨_, _, rfl, fun j hj => ⟨g, o, rfl, h.1, (h.2.1 _).trans (hx j hj)⟩, (fun e => by cases e), hn, hc, fun _ _ _ => trivial⟩

theorem chg_alloc (w : World) (o : Obj) : Chg (fun _ => False) w (w.alloc o) := ⟨rfl, rfl, rfl, by simp, fun k hk _ => by rw [heap_alloc_old _ _ hk]⟩
theorem chg_below {w v : World} (h : Below w.heap.size w v) : Chg (fun _ => False) w v := ⟨h.os, h.tape, h.output, h.size, fun k hk _ => h.block k hk⟩
theorem Gp.later {X Y : World} {gb B0 : Nat} {A : Option Addr} {N C fr te : Nat} {cur : List Int} (G : Gp X gb B0 A N C fr te cur) (h : Below X.heap.size X Y) : Gp Y gb B0 A N C fr te cur := G.chg (chg_below h) (fun h => h) (fun _ _ h => h)
theorem Lst.later {X Y : World} {gb B0 : Nat} {A : Option Addr} {L : List Int} (h : Lst X gb B0 A L) (hb : Below X.heap.size X Y) : Lst Y gb B0 A L := by
  obtain ⟨N, C, fr, te, cur, G, hL⟩ := h
  exact ⟨N, C, fr, te, cur, G.later hb, hL⟩
theorem Lst.drewN {X : World} {gb B0 : Nat} {A : Option Addr} {L : List Int} (h : Lst X gb B0 A L) (q : Nat) : Lst (X.drewN q) gb B0 A L := by
  obtain ⟨N, C, fr, te, cur, G, hL⟩ := h
  exact ⟨N, C, fr, te, cur, G.drewN q, hL⟩
theorem Lst.lt {X : World} {gb B0 : Nat} {A : Option Addr} {L : List Int} (h : Lst X gb B0 A L) : gb < X.heap.size ∧ (∀ b, Own A b → B0 ≤ b ∧ b < X.heap.size) := by
  obtain ⟨N, C, fr, te, cur, G, hL⟩ := h
  exact ⟨G.blk.1, G.mem.lt⟩

theorem lst_len {w : World} {gb B0 : Nat} {A : Option Addr} {L : List Int} (h : Lst w gb B0 A L) : Calls Try.prog 8 #[ptr gb] w fun e w' => e = .returned (.int .i64 (L.length : Int)) ∧ ∃ q, w' = w.drewN q := by
  obtain ⟨N, C, fr, te, cur, G, hL⟩ := h
  have := len_any G
  rwa [hL] at this
theorem lst_all {w : World} {gb B0 : Nat} {A : Option Addr} {L : List Int} (h : Lst w gb B0 A L) : Calls Try.prog 10 #[ptr gb] w (TellsI L w) := by
  obtain ⟨N, C, fr, te, cur, G, hL⟩ := h
  exact all_any G hL
theorem lst_splice {w : World} {gb B0 : Nat} {A : Option Addr} {L : List Int} (h : Lst w gb B0 A L) (a b n c : Nat) (AI : Option Addr) (I : List Int) (hab : a ≤ b) (hb : b ≤ L.length)
    (S : Nat → Prop) (hI : IntS w S (.slice AI n c) I) (hfar : ∀ k, S k → ¬ Mine gb A k) (hB : B0 ≤ w.heap.size) (hM : L.length + I.length ≤ 50000) :
    Calls Try.prog 7 #[ptr gb, .int .i64 a, .int .i64 b, .slice AI n c] w (Spliced w gb B0 A (L.take a ++ I ++ L.drop b)) := by
  obtain ⟨N, C, fr, te, cur, G, hL⟩ := h
  obtain ⟨e, hr, hn, _⟩ := Sl.parts hI
  subst e
  obtain ⟨A', c', e, _, _, _, _, hS⟩ := hI
  injection e with e1 e2 e3
  subst e1
  exact splice_yes G hL a b I.length c AI I hab hb hr rfl (fun e => (hn e).1) (fun h0 k o e => hfar k (hS _ e h0)) hB hM

def YesW (w : World) (e : Ending) (w' : World) : Prop := e = .returned (.bool true) ∧ Below w.heap.size w w'

/-- Behind a splice nothing ahead of B0 has turned. -/
theorem Spliced.below {w w' : World} {gb B0 : Nat} {A : Option Addr} {L : List Int} {e : Ending} (h : Spliced w gb B0 A L e w') (hgb : B0 ≤ gb) (hA : ∀ b, Own A b → B0 ≤ b) {B : Nat} (hB : B ≤ B0) (hw : B ≤ w.heap.size) : Below B w w' :=
  h.2.2.below hw fun k hk hm => by
    rcases hm with rfl | hm
    · omega
    · have := hA k hm; omega

set_option maxHeartbeats 1000000 in
set_option maxRecDepth 100000 in
theorem awake_yes (w : World) : Calls Try.prog 11 #[] w (YesW w) := by
  have C0 := Lib.hid (new_any (w := w.alloc (.cells #[.int .i64 1, .int .i64 2, .int .i64 3] 3)) (AI := some ⟨w.heap.size, 0, none⟩) (n := 3) (c := 3) (l := [1, 2, 3]) (rd_new w _ _ 3 _ fun j hj => by
    obtain rfl | rfl | rfl : j = 0 ∨ j = 1 ∨ j = 2 := by omega
    · rfl
    · rfl
    · rfl) (fun h => by cases h) rfl (by decide))
  go_enter Try.func11, Try.ntmps11
  go_wp2_with fail
  (with_reducible refine C0.out.mono ?_)
  rintro e w1 ⟨gb, A, C, rfl, G1, hb1, hgb⟩
  have H1 := Lib.hid (And.intro G1 (And.intro (((Below.refl _ _).alloc (Nat.le_refl _) (.cells #[.int .i64 1, .int .i64 2, .int .i64 3] 3)).trans (hb1.mono (by simp))) (And.intro hgb (show w.heap.size ≤ w1.heap.size from Nat.le_trans (by simp) hb1.size))))
  clear G1 hb1 C0 hgb
  go_wp2_with fail
  have C1 := Lib.hid (lst_splice (w := w1.alloc (.cells #[.int .i64 7, .int .i64 8] 3)) (gb := gb) (B0 := (w.alloc (.cells #[.int .i64 1, .int .i64 2, .int .i64 3] 3)).heap.size) (A := A) (L := [1, 2, 3]) ⟨_, _, _, _, _, H1.out.1.later ((Below.refl _ _).alloc (Nat.le_refl _) _), rfl⟩ 1 2 2 2 (some ⟨w1.heap.size, 0, none⟩) [7, 8] (by decide) (by decide) (fun k => k = w1.heap.size)
    ⟨_, _, rfl, rd_new w1 _ _ 2 _ fun j hj => (by
      obtain rfl | rfl : j = 0 ∨ j = 1 := by omega
      · rfl
      · rfl), (fun h => by cases h), by decide, by decide, fun a ha _ => by injection ha with ha; rw [← ha]⟩
    (fun k hk hm => by
      subst hk
      rcases hm with e | e
      · have := H1.out.1.blk.1; omega
      · have := (H1.out.1.mem.lt _ e).2; omega)
    (Nat.le_trans (by have := H1.out.1.blk.1; have := H1.out.2.2.1; omega) (by simp : w1.heap.size ≤ _)) (by decide))
  simp only [show ((1 : Nat) : Int) = 1 from rfl, show ((2 : Nat) : Int) = 2 from rfl] at C1
  (with_reducible refine C1.out.mono ?_)
  intro e w2 hs
  have hbs := hs.below (B := w.heap.size) H1.out.2.2.1 (fun b hb => (H1.out.1.mem.lt b hb).1) (by simp) (by have := H1.out.2.2.2; simp; omega)
  obtain ⟨rfl, ⟨A2, L2, _⟩, _⟩ := hs
  have H2 := Lib.hid (And.intro (show Lst w2 gb _ A2 [1, 7, 8, 3] from L2) (H1.out.2.1.trans (((Below.refl _ w1).alloc (Nat.le_refl _) (.cells #[.int .i64 7, .int .i64 8] 3)).mono H1.out.2.2.2 |>.trans hbs)))
  clear L2 hbs C1
  go_wp2_with fail
  have C2 := Lib.hid (lst_all H2.out.1)
  (with_reducible refine C2.out.mono ?_)
  rintro e w3 ⟨A3, n3, c3, rfl, ht3, hb3⟩
  have H3 := Lib.hid (And.intro (H2.out.1.later hb3) (And.intro (H2.out.2.trans (hb3.mono H2.out.2.size)) ht3))
  clear ht3 hb3 C2
  go_wp2_with fail
  have hb4 : Below w3.heap.size w3 (w3.alloc (.cells #[.int .i64 1, .int .i64 7, .int .i64 8, .int .i64 3] 3)) := (Below.refl _ _).alloc (Nat.le_refl _) _
  have C3 := Lib.hid (sameI_is (.slice A3 n3 c3) (.slice (some ⟨w3.heap.size, 0, none⟩) 4 4) [1, 7, 8, 3] [1, 7, 8, 3] _ Any (w3.alloc (.cells #[.int .i64 1, .int .i64 7, .int .i64 8, .int .i64 3] 3)) (Sl.later H3.out.2.2 hb4) (int_blk (blk_new _ _ _) rfl (Nat.le_refl _) (by decide) fun j hj => by obtain rfl | rfl | rfl | rfl : j = 0 ∨ j = 1 ∨ j = 2 ∨ j = 3 := (by omega) <;> rfl))
  simp only [decide_true] at C3
  (with_reducible refine C3.out.mono ?_)
  rintro e w4 ⟨rfl, q, rfl⟩
  clear C3
  have H4 := Lib.hid (And.intro ((H3.out.1.later hb4).drewN q) (H3.out.2.1.trans (hb4.mono H3.out.2.1.size)))
  clear hb4
  go_wp2_with fail
  have C4 := Lib.hid (lst_len H4.out.1)
  simp only [List.length_cons, List.length_nil] at C4
  (with_reducible refine C4.out.mono ?_)
  rintro e w5 ⟨rfl, q5, rfl⟩
  clear C4
  go_wp2
  go_ret
  exact ⟨rfl, below_drewN H4.out.2 _⟩
end Go.Proofs.Ytganehhcnflgaaa
