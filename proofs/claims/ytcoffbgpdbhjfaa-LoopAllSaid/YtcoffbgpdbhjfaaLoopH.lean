/- loop: awake, LoopNone. -/
import Derived.Test.YtcoffbgpdbhjfaaLoopG
namespace Go.Proofs.Ytcoffbgpdbhjfaa
open Go.Conc Go.RowKit
set_option linter.unusedVariables false
set_option linter.unusedSimpArgs false

/-- What a box is behind an event that is taken in. -/
def putQ (room : Nat) (q : Que) (x : Evt) : Bool × Que :=
  if x.kind = 1 then (if q.1.length < room then (true, q.1 ++ [pure_ x], q.2.1, q.2.2) else (false, q))
  else if x.kind = 2 then (if q.2.1.length < room then (true, q.1, q.2.1 ++ [pure_ x], q.2.2) else (false, q))
  else if x.kind = 3 then (if q.2.2.length < room then (true, q.1, q.2.1, q.2.2 ++ [pure_ x]) else (false, q))
  else (false, q)

theorem put_any {w : World} {bb cb ct cs room : Nat} {q : Que} (h : Bx w bb cb ct cs room q.1 q.2.1 q.2.2) (x : Evt) :
    Calls Try.prog 7 #[ptr bb, ev x] w (Took w bb cb ct cs room (putQ room q x).1 (putQ room q x).2.1 (putQ room q x).2.2.1 (putQ room q x).2.2.2) := by
  unfold putQ
  by_cases h1 : x.kind = 1
  · rw [if_pos h1]
    by_cases hl : q.1.length < room
    · rw [if_pos hl]; exact put_b h x h1 hl
    · rw [if_neg hl]; exact put_b_full h x h1 (by omega)
  · rw [if_neg h1]
    by_cases h2 : x.kind = 2
    · rw [if_pos h2]
      by_cases hl : q.2.1.length < room
      · rw [if_pos hl]; exact put_t h x h2 hl
      · rw [if_neg hl]; exact put_t_full h x h2 (by omega)
    · rw [if_neg h2]
      by_cases h3 : x.kind = 3
      · rw [if_pos h3]
        by_cases hl : q.2.2.length < room
        · rw [if_pos hl]; exact put_s h x h3 hl
        · rw [if_neg hl]; exact put_s_full h x h3 (by omega)
      · rw [if_neg h3]; exact put_other h x h1 h2 h3

/-- A box that is the call's own. -/
structure Own (w0 : World) (bb cb ct cs room : Nat) (q : Que) (w : World) : Prop where
  bx : Bx w bb cb ct cs room q.1 q.2.1 q.2.2
  below : Below w0.heap.size w0 w
  nb : w0.heap.size ≤ bb
  ncb : w0.heap.size ≤ cb
  nct : w0.heap.size ≤ ct
  ncs : w0.heap.size ≤ cs

theorem Own.put {w0 w w' : World} {bb cb ct cs room : Nat} {q : Que} {x : Evt} {ok : Bool} {a b c : List Evt} {e : Ending} (h : Own w0 bb cb ct cs room q w) (k : Took w bb cb ct cs room ok a b c e w') : e = .returned (.bool ok) ∧ Own w0 bb cb ct cs room (a, b, c) w' := by
  obtain ⟨he, hb, hc⟩ := k
  refine ⟨he, hb, h.below.trans (hc.below h.below.size fun k hk hC => ?_), h.nb, h.ncb, h.nct, h.ncs⟩
  have h1 := h.ncb
  have h2 := h.nct
  have h3 := h.ncs
  rcases hC with rfl | rfl | rfl <;> omega
theorem Own.chg {w0 w w' : World} {bb cb ct cs room : Nat} {q q' : Que} (h : Own w0 bb cb ct cs room q w) (hb : Bx w' bb cb ct cs room q'.1 q'.2.1 q'.2.2) (hc : Chg (Cs cb ct cs) w w') : Own w0 bb cb ct cs room q' w' := by
  refine ⟨hb, h.below.trans (hc.below h.below.size fun k hk hC => ?_), h.nb, h.ncb, h.nct, h.ncs⟩
  have h1 := h.ncb
  have h2 := h.nct
  have h3 := h.ncs
  rcases hC with rfl | rfl | rfl <;> omega
theorem Own.later {w0 w w' : World} {bb cb ct cs room : Nat} {q : Que} (h : Own w0 bb cb ct cs room q w) (hb : Below w.heap.size w w') : Own w0 bb cb ct cs room q w' :=
  ⟨h.bx.later hb, h.below.trans (hb.mono h.below.size), h.nb, h.ncb, h.nct, h.ncs⟩

def YesW (w : World) (e : Ending) (w' : World) : Prop := e = .returned (.bool true) ∧ Below w.heap.size w w'

set_option maxHeartbeats 4000000 in
set_option maxRecDepth 100000 in
theorem awake_yes (w : World) : Calls Try.prog 11 #[] w (YesW w) := by
  have C0 := Lib.hid (new_is 5 w (by decide) (by decide))
  simp only [show ((5 : Nat) : Int) = 5 from rfl] at C0
  go_enter Try.func11, Try.ntmps11
  go_wp2_with fail
  (with_reducible refine C0.out.mono ?_)
  rintro e w1 ⟨bb, cb, ct, cs, rfl, hb, hl, n1, n2, n3, n4⟩
  have H0 := Lib.hid (show Own w bb cb ct cs 5 ([], [], []) w1 from ⟨hb, hl, n1, n2, n3, n4⟩)
  clear C0 hb hl n1 n2 n3 n4
  go_wp2_with fail
  have C1 := Lib.hid (put_any H0.out.bx ⟨1, 97, 0, 0⟩)
  (with_reducible refine C1.out.mono ?_)
  intro e w2 h
  obtain ⟨rfl, h'⟩ := H0.out.put (x := ⟨1, 97, 0, 0⟩) (show Took w1 bb cb ct cs 5 true [⟨1, 97, 0, 0⟩] [] [] e w2 from h)
  have H1 := Lib.hid h'
  clear h h' C1 H0
  go_wp2_with fail
  have C1 := Lib.hid (put_any H1.out.bx ⟨2, 0, 0, 0⟩)
  (with_reducible refine C1.out.mono ?_)
  intro e w3 h
  obtain ⟨rfl, h'⟩ := H1.out.put (x := ⟨2, 0, 0, 0⟩) (show Took w2 bb cb ct cs 5 true [⟨1, 97, 0, 0⟩] [⟨2, 0, 0, 0⟩] [] e w3 from h)
  have H2 := Lib.hid h'
  clear h h' C1 H1
  go_wp2_with fail
  have C1 := Lib.hid (put_any H2.out.bx ⟨3, 0, 4, 5⟩)
  (with_reducible refine C1.out.mono ?_)
  intro e w4 h
  obtain ⟨rfl, h'⟩ := H2.out.put (x := ⟨3, 0, 4, 5⟩) (show Took w3 bb cb ct cs 5 true [⟨1, 97, 0, 0⟩] [⟨2, 0, 0, 0⟩] [⟨3, 0, 4, 5⟩] e w4 from h)
  have H3 := Lib.hid h'
  clear h h' C1 H2
  go_wp2_with fail
  have C1 := Lib.hid (put_any H3.out.bx ⟨1, 98, 0, 0⟩)
  (with_reducible refine C1.out.mono ?_)
  intro e w5 h
  obtain ⟨rfl, h'⟩ := H3.out.put (x := ⟨1, 98, 0, 0⟩) (show Took w4 bb cb ct cs 5 true [⟨1, 97, 0, 0⟩, ⟨1, 98, 0, 0⟩] [⟨2, 0, 0, 0⟩] [⟨3, 0, 4, 5⟩] e w5 from h)
  have H4 := Lib.hid h'
  clear h h' C1 H3
  go_wp2_with fail
  have C1 := Lib.hid (all_any H4.out.bx 9 (by decide))
  (with_reducible refine C1.out.mono ?_)
  intro e w6 h
  obtain ⟨A, c, rfl, hr, hA, hbx, hch⟩ := (show AllIs w5 bb cb ct cs 5 [⟨3, 0, 4, 5⟩, ⟨1, 97, 0, 0⟩, ⟨1, 98, 0, 0⟩, ⟨2, 0, 0, 0⟩] ([], [], []) e w6 from h)
  have H5 := Lib.hid (And.intro (H4.out.chg hbx hch) hr)
  clear h C1 H4 hr hA hbx hch
  go_wp2_with fail
  have hb7 : Below w6.heap.size w6 (w6.alloc (.cells #[.int .i64 3, .int .u8 0, .int .i64 4, .int .i64 5, .int .i64 1, .int .u8 97, .int .i64 0, .int .i64 0, .int .i64 1, .int .u8 98, .int .i64 0, .int .i64 0, .int .i64 2, .int .u8 0, .int .i64 0, .int .i64 0] 23)) := (Below.refl _ _).alloc (Nat.le_refl _) _
  have C2 := Lib.hid (same_at A (some ⟨w6.heap.size, 0, none⟩) 4 c 4 [⟨3, 0, 4, 5⟩, ⟨1, 97, 0, 0⟩, ⟨1, 98, 0, 0⟩, ⟨2, 0, 0, 0⟩] [⟨3, 0, 4, 5⟩, ⟨1, 97, 0, 0⟩, ⟨1, 98, 0, 0⟩, ⟨2, 0, 0, 0⟩] _ rfl rfl (by decide) (H5.out.2.later hb7) (ev_new w6 [⟨3, 0, 4, 5⟩, ⟨1, 97, 0, 0⟩, ⟨1, 98, 0, 0⟩, ⟨2, 0, 0, 0⟩] _ #[.int .i64 3, .int .u8 0, .int .i64 4, .int .i64 5, .int .i64 1, .int .u8 97, .int .i64 0, .int .i64 0, .int .i64 1, .int .u8 98, .int .i64 0, .int .i64 0, .int .i64 2, .int .u8 0, .int .i64 0, .int .i64 0] rfl))
  simp only [decide_true] at C2
  (with_reducible refine C2.out.mono ?_)
  rintro e w8 ⟨rfl, r, rfl⟩
  clear C2
  go_wp2
  go_ret
  exact ⟨rfl, below_drewN (H5.out.1.below.trans (hb7.mono H5.out.1.below.size)) _⟩
end Go.Proofs.Ytcoffbgpdbhjfaa
