/- loop: Next as one, Put, Len. -/
import Derived.Test.YtcoffbgpdbhjfaaLoopC
import Derived.StillTailTactics
namespace Go.Proofs.Ytcoffbgpdbhjfaa
open Go.Conc Go.RowKit
set_option linter.unusedVariables false
set_option linter.unusedSimpArgs false

abbrev zeroE : Evt := ⟨0, 0, 0, 0⟩
/-- What is told next, and what waits then. -/
def nextQ (q : List Evt × List Evt × List Evt) : Evt × Bool × List Evt × List Evt × List Evt :=
  match q with
  | (qb, qt, x :: qs) => (x, true, qb, qt, qs)
  | (x :: qb, qt, []) => (x, true, qb, qt, [])
  | ([], x :: qt, []) => (x, true, [], qt, [])
  | ([], [], []) => (zeroE, false, [], [], [])

theorem next_any {w : World} {bb cb ct cs room : Nat} {qb qt qs : List Evt} (h : Bx w bb cb ct cs room qb qt qs) :
    Calls Try.prog 6 #[ptr bb] w (Told w bb cb ct cs room (nextQ (qb, qt, qs)).1 (nextQ (qb, qt, qs)).2.1 (nextQ (qb, qt, qs)).2.2.1 (nextQ (qb, qt, qs)).2.2.2.1 (nextQ (qb, qt, qs)).2.2.2.2) := by
  rcases qs with _ | ⟨x, qs⟩
  · rcases qb with _ | ⟨x, qb⟩
    · rcases qt with _ | ⟨x, qt⟩
      · exact next_0 h
      · exact next_t (qb := []) (qs := []) h
    · exact next_b (qs := []) h
  · exact next_s h

/-- A nil box has nothing. -/
theorem next_nil (w : World) : Calls Try.prog 6 #[.pointer none] w fun e w' => e = .returned (.tuple #[ev zeroE, .bool false]) ∧ Below w.heap.size w w' := by
  go_enter Try.func6, Try.ntmps6
  go_wp2
  refine at_world (fun Z => Below w.heap.size w Z ∧ Blk Z w.heap.size #[.int .i64 0, .int .u8 0, .int .i64 0, .int .i64 0]) ⟨(Below.refl _ _).alloc (Nat.le_refl _) _, blk_new _ _ _⟩ ?_
  rintro Z ⟨hc, _, h, _⟩
  have x0 := h 0
  have x1 := h 1
  have x2 := h 2
  have x3 := h 3
  refine bodyPost_ret (v := .tuple #[ev ⟨0, 0, 0, 0⟩, .bool false]) (by simp [results, Try.results6, go_sem, x0, x1, x2, x3]) rfl ⟨rfl, hc⟩

/-! ### Put -/
theorem put_nil (x : Evt) (w : World) : Calls Try.prog 7 #[.pointer none, ev x] w fun e w' => e = .returned (.bool false) ∧ Below w.heap.size w w' := by
  go_enter Try.func7, Try.ntmps7
  go_wp2
  go_ret
  exact ⟨rfl, (Below.refl _ _).alloc (Nat.le_refl _) _⟩

/-- What is taken in: of an event just what belongs to its kind. -/
def pure_ (x : Evt) : Evt := if x.kind = 1 then ⟨1, x.byte, 0, 0⟩ else if x.kind = 2 then ⟨2, 0, 0, 0⟩ else ⟨3, 0, x.rows, x.cols⟩

def Took (w : World) (bb cb ct cs room : Nat) (ok : Bool) (qb qt qs : List Evt) (e : Ending) (w' : World) : Prop :=
  e = .returned (.bool ok) ∧ Bx w' bb cb ct cs room qb qt qs ∧ Chg (Cs cb ct cs) w w'

/-- 'put' at a channel that holds q. -/
theorem put_q {w : World} {c room : Nat} {q : List Evt} (h : ∃ s r, Ch w c room (arr q) s r) (x : Evt) (hlt : q.length < room) : ∃ s r, Calls Try.prog 17 #[.chan (some c), ev x] w fun e w' => e = .returned (.bool true) ∧ Below w.heap.size (w.setChan c room (arr (q ++ [x])) false s r false) w' := by
  obtain ⟨s, r, k⟩ := h
  refine ⟨s + 1, r, ?_⟩
  have := put_room w c room s r (arr q) x k (by rw [arr_size]; exact hlt)
  rwa [← arr_push] at this
theorem put_0 {w : World} {c room : Nat} {q : List Evt} (h : ∃ s r, Ch w c room (arr q) s r) (x : Evt) (hge : room ≤ q.length) : Calls Try.prog 17 #[.chan (some c), ev x] w fun e w' => e = .returned (.bool false) ∧ Below w.heap.size w w' := by
  obtain ⟨s, r, k⟩ := h
  exact put_full w c room s r (arr q) x k (by rw [arr_size]; exact hge)

set_option maxHeartbeats 2000000 in
set_option maxRecDepth 100000 in
theorem put_other {w : World} {bb cb ct cs room : Nat} {qb qt qs : List Evt} (h : Bx w bb cb ct cs room qb qt qs) (x : Evt) (h1 : x.kind ≠ 1) (h2 : x.kind ≠ 2) (h3 : x.kind ≠ 3) :
    Calls Try.prog 7 #[ptr bb, ev x] w (Took w bb cb ct cs room false qb qt qs) := by
  obtain ⟨k, b, r, c⟩ := x
  simp only at h1 h2 h3
  have d1 : (k == 1) = false := by simpa using h1
  have d2 : (k == 2) = false := by simpa using h2
  have d3 : (k == 3) = false := by simpa using h3
  have H := Lib.hid h
  clear h
  go_enter Try.func7, Try.ntmps7
  go_wp2
  go_ret
  exact ⟨rfl, H.out.later ((Below.refl _ _).alloc (Nat.le_refl _) _), (Chg.refl _ _).alloc _⟩

set_option maxHeartbeats 2000000 in
set_option maxRecDepth 100000 in
theorem put_b {w : World} {bb cb ct cs room : Nat} {qb qt qs : List Evt} (h : Bx w bb cb ct cs room qb qt qs) (x : Evt) (h1 : x.kind = 1) (hlt : qb.length < room) :
    Calls Try.prog 7 #[ptr bb, ev x] w (Took w bb cb ct cs room true (qb ++ [pure_ x]) qt qs) := by
  have ep : pure_ x = ⟨1, x.byte, 0, 0⟩ := by simp [pure_, h1]
  rw [ep]
  clear ep
  obtain ⟨k, b, r, c⟩ := x
  simp only at h1
  subst h1
  have H := Lib.hid h
  clear h
  go_enter Try.func7, Try.ntmps7
  go_wp2
  refine at_world (fun X => (Bx X bb cb ct cs room qb qt qs ∧ Below w.heap.size w X) ∧ Blk X w.heap.size #[.int .i64 1, .int .u8 b, .int .i64 r, .int .i64 c]) ⟨⟨H.out.later ((Below.refl _ _).alloc (Nat.le_refl _) _), (Below.refl _ _).alloc (Nat.le_refl _) _⟩, blk_new _ _ _⟩ ?_
  rintro X HX
  have H1 := Lib.hid HX
  obtain ⟨y0, k0, j0⟩ := (show Blk _ _ _ from HX.1.1.blk)
  obtain ⟨y1, k1, j1⟩ := (show Blk _ _ _ from HX.2)
  clear HX
  go_still_tail 7, (by kernel_rfl)
  change wpList _ _ _ _ _ X.drew
  obtain ⟨s1, r1, C⟩ := put_q (w := X.drew) (H1.out.1.1.later (Below.refl _ _).drew).chb ⟨1, b, 0, 0⟩ hlt
  have CC := Lib.hid C
  clear C
  go_wp2_with fail
  (with_reducible refine CC.out.mono ?_)
  rintro e w5 ⟨rfl, hb⟩
  have H5 := Lib.hid (And.intro ((H1.out.1.1.later (Below.refl _ _).drew).turn_b hb) ((((chg_below H1.out.1.2.drew).mono (T := Cs cb ct cs) fun _ _ h => h.elim).next (turn_chg hb) (fun j _ e => by simp [Cs, e]))))
  clear hb CC
  go_wp2
  go_ret
  exact ⟨rfl, H5.out.1, H5.out.2⟩

set_option maxHeartbeats 2000000 in
set_option maxRecDepth 100000 in
theorem put_b_full {w : World} {bb cb ct cs room : Nat} {qb qt qs : List Evt} (h : Bx w bb cb ct cs room qb qt qs) (x : Evt) (h1 : x.kind = 1) (hlt : room ≤ qb.length) :
    Calls Try.prog 7 #[ptr bb, ev x] w (Took w bb cb ct cs room false qb qt qs) := by
  obtain ⟨k, b, r, c⟩ := x
  simp only at h1
  subst h1
  have H := Lib.hid h
  clear h
  go_enter Try.func7, Try.ntmps7
  go_wp2
  refine at_world (fun X => (Bx X bb cb ct cs room qb qt qs ∧ Below w.heap.size w X) ∧ Blk X w.heap.size #[.int .i64 1, .int .u8 b, .int .i64 r, .int .i64 c]) ⟨⟨H.out.later ((Below.refl _ _).alloc (Nat.le_refl _) _), (Below.refl _ _).alloc (Nat.le_refl _) _⟩, blk_new _ _ _⟩ ?_
  rintro X HX
  have H1 := Lib.hid HX
  obtain ⟨y0, k0, j0⟩ := (show Blk _ _ _ from HX.1.1.blk)
  obtain ⟨y1, k1, j1⟩ := (show Blk _ _ _ from HX.2)
  clear HX
  go_still_tail 7, (by kernel_rfl)
  change wpList _ _ _ _ _ X.drew
  have CC := Lib.hid (put_0 (w := X.drew) (H1.out.1.1.later (Below.refl _ _).drew).chb ⟨1, b, 0, 0⟩ hlt)
  go_wp2_with fail
  (with_reducible refine CC.out.mono ?_)
  rintro e w5 ⟨rfl, hb⟩
  have H5 := Lib.hid (And.intro ((H1.out.1.1.later (Below.refl _ _).drew).later hb) ((((chg_below H1.out.1.2.drew).mono (T := Cs cb ct cs) fun _ _ h => h.elim).next (chg_below hb) (fun j _ e => e.elim))))
  clear hb CC
  go_wp2
  go_ret
  exact ⟨rfl, H5.out.1, H5.out.2⟩

set_option maxHeartbeats 2000000 in
set_option maxRecDepth 100000 in
theorem put_t {w : World} {bb cb ct cs room : Nat} {qb qt qs : List Evt} (h : Bx w bb cb ct cs room qb qt qs) (x : Evt) (h1 : x.kind = 2) (hlt : qt.length < room) :
    Calls Try.prog 7 #[ptr bb, ev x] w (Took w bb cb ct cs room true qb (qt ++ [pure_ x]) qs) := by
  have ep : pure_ x = ⟨2, 0, 0, 0⟩ := by simp [pure_, h1]
  rw [ep]
  clear ep
  obtain ⟨k, b, r, c⟩ := x
  simp only at h1
  subst h1
  have H := Lib.hid h
  clear h
  go_enter Try.func7, Try.ntmps7
  go_upto_region 3 with fail
  refine at_world (fun X => (Bx X bb cb ct cs room qb qt qs ∧ Below w.heap.size w X) ∧ Blk X w.heap.size #[.int .i64 2, .int .u8 b, .int .i64 r, .int .i64 c]) ⟨⟨H.out.later ((Below.refl _ _).alloc (Nat.le_refl _) _), (Below.refl _ _).alloc (Nat.le_refl _) _⟩, blk_new _ _ _⟩ ?_
  rintro X HX
  have H1 := Lib.hid HX
  obtain ⟨y0, k0, j0⟩ := (show Blk _ _ _ from HX.1.1.blk)
  obtain ⟨y1, k1, j1⟩ := (show Blk _ _ _ from HX.2)
  clear HX
  obtain ⟨s1, r1, C⟩ := put_q (w := X) H1.out.1.1.cht ⟨2, 0, 0, 0⟩ hlt
  have CC := Lib.hid C
  clear C
  go_wp2_with fail
  (with_reducible refine CC.out.mono ?_)
  rintro e w5 ⟨rfl, hb⟩
  have H5 := Lib.hid (And.intro (H1.out.1.1.turn_t hb) ((((chg_below H1.out.1.2).mono (T := Cs cb ct cs) fun _ _ h => h.elim).next (turn_chg hb) (fun j _ e => by simp [Cs, e]))))
  clear hb CC
  go_wp2
  go_ret
  exact ⟨rfl, H5.out.1, H5.out.2⟩

set_option maxHeartbeats 2000000 in
set_option maxRecDepth 100000 in
theorem put_t_full {w : World} {bb cb ct cs room : Nat} {qb qt qs : List Evt} (h : Bx w bb cb ct cs room qb qt qs) (x : Evt) (h1 : x.kind = 2) (hlt : room ≤ qt.length) :
    Calls Try.prog 7 #[ptr bb, ev x] w (Took w bb cb ct cs room false qb qt qs) := by
  obtain ⟨k, b, r, c⟩ := x
  simp only at h1
  subst h1
  have H := Lib.hid h
  clear h
  go_enter Try.func7, Try.ntmps7
  go_upto_region 3 with fail
  refine at_world (fun X => (Bx X bb cb ct cs room qb qt qs ∧ Below w.heap.size w X) ∧ Blk X w.heap.size #[.int .i64 2, .int .u8 b, .int .i64 r, .int .i64 c]) ⟨⟨H.out.later ((Below.refl _ _).alloc (Nat.le_refl _) _), (Below.refl _ _).alloc (Nat.le_refl _) _⟩, blk_new _ _ _⟩ ?_
  rintro X HX
  have H1 := Lib.hid HX
  obtain ⟨y0, k0, j0⟩ := (show Blk _ _ _ from HX.1.1.blk)
  obtain ⟨y1, k1, j1⟩ := (show Blk _ _ _ from HX.2)
  clear HX
  have CC := Lib.hid (put_0 (w := X) H1.out.1.1.cht ⟨2, 0, 0, 0⟩ hlt)
  go_wp2_with fail
  (with_reducible refine CC.out.mono ?_)
  rintro e w5 ⟨rfl, hb⟩
  have H5 := Lib.hid (And.intro (H1.out.1.1.later hb) ((((chg_below H1.out.1.2).mono (T := Cs cb ct cs) fun _ _ h => h.elim).next (chg_below hb) (fun j _ e => e.elim))))
  clear hb CC
  go_wp2
  go_ret
  exact ⟨rfl, H5.out.1, H5.out.2⟩

set_option maxHeartbeats 2000000 in
set_option maxRecDepth 100000 in
theorem put_s {w : World} {bb cb ct cs room : Nat} {qb qt qs : List Evt} (h : Bx w bb cb ct cs room qb qt qs) (x : Evt) (h1 : x.kind = 3) (hlt : qs.length < room) :
    Calls Try.prog 7 #[ptr bb, ev x] w (Took w bb cb ct cs room true qb qt (qs ++ [pure_ x])) := by
  have ep : pure_ x = ⟨3, 0, x.rows, x.cols⟩ := by simp [pure_, h1]
  rw [ep]
  clear ep
  obtain ⟨k, b, r, c⟩ := x
  simp only at h1
  subst h1
  have H := Lib.hid h
  clear h
  go_enter Try.func7, Try.ntmps7
  go_wp2
  refine at_world (fun X => (Bx X bb cb ct cs room qb qt qs ∧ Below w.heap.size w X) ∧ Blk X w.heap.size #[.int .i64 3, .int .u8 b, .int .i64 r, .int .i64 c]) ⟨⟨H.out.later ((Below.refl _ _).alloc (Nat.le_refl _) _), (Below.refl _ _).alloc (Nat.le_refl _) _⟩, blk_new _ _ _⟩ ?_
  rintro X HX
  have H1 := Lib.hid HX
  obtain ⟨y0, k0, j0⟩ := (show Blk _ _ _ from HX.1.1.blk)
  obtain ⟨y1, k1, j1⟩ := (show Blk _ _ _ from HX.2)
  clear HX
  go_still_tail 9, (by kernel_rfl)
  change wpList _ _ _ _ _ X.drew
  obtain ⟨s1, r1, C⟩ := put_q (w := X.drew) (H1.out.1.1.later (Below.refl _ _).drew).chs ⟨3, 0, r, c⟩ hlt
  have CC := Lib.hid C
  clear C
  go_wp2_with fail
  (with_reducible refine CC.out.mono ?_)
  rintro e w5 ⟨rfl, hb⟩
  have H5 := Lib.hid (And.intro ((H1.out.1.1.later (Below.refl _ _).drew).turn_s hb) ((((chg_below H1.out.1.2.drew).mono (T := Cs cb ct cs) fun _ _ h => h.elim).next (turn_chg hb) (fun j _ e => by simp [Cs, e]))))
  clear hb CC
  go_wp2
  go_ret
  exact ⟨rfl, H5.out.1, H5.out.2⟩

set_option maxHeartbeats 2000000 in
set_option maxRecDepth 100000 in
theorem put_s_full {w : World} {bb cb ct cs room : Nat} {qb qt qs : List Evt} (h : Bx w bb cb ct cs room qb qt qs) (x : Evt) (h1 : x.kind = 3) (hlt : room ≤ qs.length) :
    Calls Try.prog 7 #[ptr bb, ev x] w (Took w bb cb ct cs room false qb qt qs) := by
  obtain ⟨k, b, r, c⟩ := x
  simp only at h1
  subst h1
  have H := Lib.hid h
  clear h
  go_enter Try.func7, Try.ntmps7
  go_wp2
  refine at_world (fun X => (Bx X bb cb ct cs room qb qt qs ∧ Below w.heap.size w X) ∧ Blk X w.heap.size #[.int .i64 3, .int .u8 b, .int .i64 r, .int .i64 c]) ⟨⟨H.out.later ((Below.refl _ _).alloc (Nat.le_refl _) _), (Below.refl _ _).alloc (Nat.le_refl _) _⟩, blk_new _ _ _⟩ ?_
  rintro X HX
  have H1 := Lib.hid HX
  obtain ⟨y0, k0, j0⟩ := (show Blk _ _ _ from HX.1.1.blk)
  obtain ⟨y1, k1, j1⟩ := (show Blk _ _ _ from HX.2)
  clear HX
  go_still_tail 9, (by kernel_rfl)
  change wpList _ _ _ _ _ X.drew
  have CC := Lib.hid (put_0 (w := X.drew) (H1.out.1.1.later (Below.refl _ _).drew).chs ⟨3, 0, r, c⟩ hlt)
  go_wp2_with fail
  (with_reducible refine CC.out.mono ?_)
  rintro e w5 ⟨rfl, hb⟩
  have H5 := Lib.hid (And.intro ((H1.out.1.1.later (Below.refl _ _).drew).later hb) ((((chg_below H1.out.1.2.drew).mono (T := Cs cb ct cs) fun _ _ h => h.elim).next (chg_below hb) (fun j _ e => e.elim))))
  clear hb CC
  go_wp2
  go_ret
  exact ⟨rfl, H5.out.1, H5.out.2⟩

end Go.Proofs.Ytcoffbgpdbhjfaa
