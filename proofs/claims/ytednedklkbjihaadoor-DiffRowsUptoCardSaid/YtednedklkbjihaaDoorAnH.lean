/- ansi: Way. -/
import Derived.Test.YtednedklkbjihaaDoorAnG
namespace Go.Proofs.YtednedklkbjihaaDoor
open Go.RowKit
set_option linter.unusedVariables false
set_option linter.unusedSimpArgs false

/-- What Way reads: from, to; what was tried; the rows. -/
structure Wv (w : World) (a b c d s : Int) (v : Value) (L : List Ob) (R : Value) (M : List Ob) (X : World) : Prop where
  tri : Tri w (w.heap.size + 1 + 1 + 1) (w.heap.size + 1 + 1) s v L X
  f : Blk X w.heap.size #[.int .i64 a, .int .i64 b]
  t : Blk X (w.heap.size + 1) #[.int .i64 c, .int .i64 d]
  r : LiV 4 encO X (fun q => w.heap.size ≤ q ∧ q ≠ w.heap.size + 1 + 1 + 1 ∧ q ≠ w.heap.size + 1 + 1) R M
theorem Wv.later {w X Y : World} {a b c d s : Int} {v R : Value} {L M : List Ob} (h : Wv w a b c d s v L R M X) (hb : Below X.heap.size X Y) : Wv w a b c d s v L R M Y :=
  ⟨h.tri.later hb, h.f.later hb h.f.1, h.t.later hb h.t.1, h.r.later hb⟩
theorem Wv.tried {w X Y : World} {a b c d s s' : Int} {v v' R : Value} {L L' M : List Ob} (h : Wv w a b c d s v L R M X) (ht : Tri w (w.heap.size + 1 + 1 + 1) (w.heap.size + 1 + 1) s' v' L' Y) (hk : Keeps (w.heap.size + 1 + 1 + 1) (w.heap.size + 1 + 1) X Y) : Wv w a b c d s' v' L' R M Y :=
  ⟨ht, h.f.chg hk (by omega), h.t.chg hk (by omega), h.r.chg hk fun q hq he => he.elim hq.2.1 hq.2.2⟩
theorem Wv.base {w X : World} {a b c d s : Int} {v R : Value} {L M : List Ob} (h : Wv w a b c d s v L R M X) : w.heap.size + 4 ≤ X.heap.size := by have := h.tri.l.1; omega
def way0 (w : World) (a b c d : Int) : World := (((w.alloc (.cells #[.int .i64 a, .int .i64 b] 39)).alloc (.cells #[.int .i64 c, .int .i64 d] 39)).alloc (.cells #[.slice none 0 0] 37)).alloc (.cells #[.int .i64 (-1)] 3)
theorem wv_start (w : World) (a b c d : Int) : Wv w a b c d (-1) (.slice none 0 0) [] (.slice none 0 0) [] (way0 w a b c d) := by
  refine ⟨⟨belPush (belPush (belPush (belAlloc _ _) _) _) _, ?_, ?_, by omega, by omega, by omega, LiV.nil _ _⟩, ?_, ?_, LiV.nil _ _⟩
  · have := blk_new (((w.alloc (.cells #[.int .i64 a, .int .i64 b] 39)).alloc (.cells #[.int .i64 c, .int .i64 d] 39)).alloc (.cells #[.slice none 0 0] 37)) #[.int .i64 (-1)] 3
    simpa [way0] using this
  · exact (blk_three w _ _ _ _ _ _).2.2.alloc _
  · exact (blk_three w _ _ _ _ _ _).1.alloc _
  · exact (blk_three w _ _ _ _ _ _).2.1.alloc _
theorem Wv.rows {w X : World} {a b c d s : Int} {v R R' : Value} {L M M' : List Ob} (h : Wv w a b c d s v L R M X) (hr : LiV 4 encO X (fun q => w.heap.size + 4 ≤ q) R' M') : Wv w a b c d s v L R' M' X :=
  ⟨h.tri, h.f, h.t, hr.mono fun q hq => by omega⟩
theorem Wv.off {w X : World} {a b c d s : Int} {v R : Value} {L M L' : List Ob} {v' : Value} {B : Nat} {Y : World} (h : Wv w a b c d s v L R M X) (hB : X.heap.size ≤ B) (hr : LiV 4 encO Y (fun q => B ≤ q) v' L') : LiV 4 encO Y (fun q => w.heap.size ≤ q ∧ q ≠ w.heap.size + 1 + 1 + 1 ∧ q ≠ w.heap.size + 1 + 1) v' L' := by
  have := h.base
  exact hr.mono fun q hq => by omega

theorem byL_fit (n up down : Int) (n0 : -1000000 ≤ n) (n1 : n ≤ 1000000) : (byL n up down).length ≤ 1 ∧ ∀ x ∈ byL n up down, Fit 0 x := by
  unfold byL
  split
  · refine ⟨by simp, fun x hx => ?_⟩
    obtain rfl : x = _ := by simpa using hx
    exact ⟨by simp; omega, by simp; omega, by simp, by simp, Nat.le_refl _⟩
  · split
    · refine ⟨by simp, fun x hx => ?_⟩
      obtain rfl : x = _ := by simpa using hx
      exact ⟨by simp; omega, by simp; omega, by simp, by simp, Nat.le_refl _⟩
    · exact ⟨by simp, fun x hx => by simp at hx⟩
def moveL (c d : Int) : List Ob := [⟨2, c, d, ⟨#[]⟩⟩]
def backL : List Ob := [⟨6, 0, 0, ⟨#[]⟩⟩]
def goL (a b c d : Int) : List Ob := byL (c - a) 11 10 ++ byL (d - b) 8 9
def bkL (a b c d : Int) : List Ob := byL (c - a) 11 10 ++ backL
/-- What was tried: the least size, the best. -/
def way1 (c d : Int) : Int := tryS (-1) (moveL c d)
def way1L (c d : Int) : List Ob := tryL (-1) [] (moveL c d)
def way2 (a b c d : Int) : Int := tryS (way1 c d) (goL a b c d)
def way2L (a b c d : Int) : List Ob := tryL (way1 c d) (way1L c d) (goL a b c d)
def way3L (a b c d : Int) : List Ob := tryL (way2 a b c d) (way2L a b c d) (bkL a b c d)
def wayL (a b c d : Int) : List Ob := if d = 0 then way3L a b c d else way2L a b c d
end Go.Proofs.YtednedklkbjihaaDoor
