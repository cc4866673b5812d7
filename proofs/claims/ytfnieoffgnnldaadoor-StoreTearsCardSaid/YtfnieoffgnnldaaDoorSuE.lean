/- utf: Feed, End, Pending. -/
import Derived.Test.YtfnieoffgnnldaaDoorUtfD
namespace Go.Proofs.YtfnieoffgnnldaaDoor
open Go.RowKit
set_option linter.unusedVariables false
set_option linter.unusedSimpArgs false

theorem eltI : Elt Tryd.prog 22 21 1 4 := elt_of Tryd.underlying22 (z := .int .i32 0) (by kernel_rfl) rfl (by decide)

/-- A list of ints as a slice holds it. -/
def li (l : List Int) (j : Nat) : Value := .int .i32 (l.getD j 0)

/-- What Feed tells. -/
def FeedTo (s : DS) (b : Int) (w : World) (e : Ending) (w' : World) : Prop :=
  ∃ A c, e = .returned (.tuple #[(stepD s b).1.val, .slice A (stepD s b).2.length c]) ∧ Rd w' A (stepD s b).2.length (li (stepD s b).2) ∧ Below w.heap.size w w'

/-- What step tells, the state taken apart. -/
def StepIs (x y z n : Int) (l : List Int) (w : World) (e : Ending) (w' : World) : Prop :=
  ∃ (p q : Int), ((l = [] ∧ e = .returned (.tuple #[dcd x y z n, .agg #[.int .i32 p, .int .i32 q], .int .i64 0])) ∨ (l = [p] ∧ e = .returned (.tuple #[dcd x y z n, .agg #[.int .i32 p, .int .i32 q], .int .i64 1])) ∨
    (l = [p, q] ∧ e = .returned (.tuple #[dcd x y z n, .agg #[.int .i32 p, .int .i32 q], .int .i64 2]))) ∧ Below w.heap.size w w'

theorem two_later {w w' : World} {a b : Array Value} {s t : TypeId} (hb : Below ((w.alloc (.cells a s)).alloc (.cells b t)).heap.size ((w.alloc (.cells a s)).alloc (.cells b t)) w') :
    (w.heap.size < w'.heap.size ∧ w.heap.size + 1 < w'.heap.size) ∧ Blk w' w.heap.size a ∧ Blk w' (w.heap.size + 1) b ∧ Below w.heap.size w w' := by
  have h1 := (blk_new w a s).alloc (.cells b t)
  have h2 := blk_new (w.alloc (.cells a s)) b t
  rw [World.size_alloc] at h2
  have k1 := h1.later hb h1.1
  have k2 := h2.later hb h2.1
  have h := ((Below.refl w.heap.size w).alloc (Nat.le_refl _) (.cells a s)).alloc (by simp [World.size_alloc]) (.cells b t)
  exact ⟨⟨k1.1, k2.1⟩, k1, k2, h.trans (hb.mono h.size)⟩

/-- What is known behind Feed's last statement. -/
structure FDone (w : World) (d0 d1 d2 d3 : Value) (A : Option Addr) (k : Nat) (f : Nat → Value) (X : World) : Prop where
  c1 : ∀ j, X.cell? ⟨w.heap.size + 1, j, none⟩ = #[d0, d1, d2, d3][j]?
  rd : Rd X A k f
  below : Below w.heap.size w X

theorem four_set {w v : World} {d0 d1 d2 d3 e0 e1 e2 e3 : Value} (hb : Below w.heap.size w v) (h1 : Blk v (w.heap.size + 1) #[e0, e1, e2, e3]) :
    Blk ((((v.setCell ⟨w.heap.size + 1, 0, none⟩ d0).setCell ⟨w.heap.size + 1, 1, none⟩ d1).setCell ⟨w.heap.size + 1, 2, none⟩ d2).setCell ⟨w.heap.size + 1, 3, none⟩ d3) (w.heap.size + 1) #[d0, d1, d2, d3] ∧
    Below w.heap.size w ((((v.setCell ⟨w.heap.size + 1, 0, none⟩ d0).setCell ⟨w.heap.size + 1, 1, none⟩ d1).setCell ⟨w.heap.size + 1, 2, none⟩ d2).setCell ⟨w.heap.size + 1, 3, none⟩ d3) :=
  ⟨(((h1.set_ 0 (by simp) d0).set_ 1 (by simp) d1).set_ 2 (by simp) d2).set_ 3 (by simp) d3, (((hb.setCell (by simp) _).setCell (by simp) _).setCell (by simp) _).setCell (by simp) _⟩

theorem fdone_none {w v : World} {d0 d1 d2 d3 : Value} {f : Nat → Value} {A : Option Addr} (hb : Below w.heap.size w v) (h1 : Blk v (w.heap.size + 1) #[d0, d1, d2, d3]) (o1 o2 : Obj) : FDone w d0 d1 d2 d3 A 0 f ((v.alloc o1).alloc o2).drew :=
  ⟨((h1.alloc o1).alloc o2).2.1, Rd.empty _ _ _, ((hb.alloc hb.size o1).alloc (by rw [World.size_alloc]; exact Nat.le_succ_of_le hb.size) o2).drew⟩

theorem fdone_some {w v : World} {d0 d1 d2 d3 : Value} {f : Nat → Value} {g k : Nat} (hb : Below w.heap.size w v) (h1 : Blk v (w.heap.size + 1) #[d0, d1, d2, d3]) (o1 o2 : Obj) (cs : Array Value) (t : TypeId) (hg : g = v.heap.size + 1 + 1)
    (hcs : ∀ j, j < k → cs[j]? = some (f j)) : FDone w d0 d1 d2 d3 (some ⟨g, 0, none⟩) k f (((v.alloc o1).alloc o2).alloc (.cells cs t)).drew.drew := by
  have hs : ((v.alloc o1).alloc o2).heap.size = g := by rw [World.size_alloc, World.size_alloc, hg]
  have hb2 := (hb.alloc hb.size o1).alloc (by rw [World.size_alloc]; exact Nat.le_succ_of_le hb.size) o2
  have hr := rd_new ((v.alloc o1).alloc o2) cs t k f hcs
  rw [hs] at hr
  exact ⟨(((h1.alloc o1).alloc o2).alloc _).2.1, hr, (hb2.alloc hb2.size _).drew.drew⟩

end Go.Proofs.YtfnieoffgnnldaaDoor
