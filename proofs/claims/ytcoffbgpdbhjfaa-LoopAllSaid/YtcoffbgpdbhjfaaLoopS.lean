/- loop: the document's box: Len, Put. -/
import Derived.Test.YtcoffbgpdbhjfaaLoopR
namespace Go.Proofs.Ytcoffbgpdbhjfaa
open Go.Conc Go.RowKit
set_option linter.unusedVariables false
set_option linter.unusedSimpArgs false

set_option maxHeartbeats 2000000 in
set_option maxRecDepth 100000 in
theorem reflen_any {w : World} {B0 rb room n c : Nat} {A : Option Addr} {L : List Evt} (h : Rb w B0 rb room A n c L) (hn : n ≤ 1000000) :
    Calls Try.prog 14 #[ptr rb] w fun e w' => e = .returned (lens (ofK 1 L).length (ofK 2 L).length (ofK 3 L).length) ∧ Below w.heap.size w w' := by
  have H := Lib.hid (h.later ((Below.refl _ _).alloc (Nat.le_refl _) (.cells #[.int .i64 0, .int .i64 0, .int .i64 0] 28)))
  clear h
  go_enter Try.func14, Try.ntmps14
  go_wp2_with fail
  (with_reducible refine (count_any H.out 1 hn).mono ?_)
  rintro e w1 ⟨rfl, rfl⟩
  go_wp2_with fail
  (with_reducible refine (count_any H.out 2 hn).mono ?_)
  rintro e w1 ⟨rfl, rfl⟩
  go_wp2_with fail
  (with_reducible refine (count_any H.out 3 hn).mono ?_)
  rintro e w1 ⟨rfl, rfl⟩
  go_wp2
  refine at_world (fun Z => Below w.heap.size w Z ∧ Blk Z w.heap.size #[.int .i64 ((ofK 1 L).length : Int), .int .i64 ((ofK 2 L).length : Int), .int .i64 ((ofK 3 L).length : Int)]) ?_ ?_
  · exact ⟨(Below.refl _ _).alloc (Nat.le_refl _) _, blk_new _ _ _⟩
  rintro Z ⟨hc, _, h, _⟩
  have x0 := h 0
  have x1 := h 1
  have x2 := h 2
  refine bodyPost_ret (v := lens (ofK 1 L).length (ofK 2 L).length (ofK 3 L).length) (by simp [results, Try.results14, go_sem, x0, x1, x2]) rfl ⟨rfl, hc⟩

/-- What the document's box turns. -/
abbrev Rt (rb : Nat) (A : Option Addr) (n c g : Nat) : Prop := g = rb ∨ (Value.slice A n c).ownBlock = some g

/-- The document's box behind a step: what waits is L'. -/
def Rs (w : World) (B0 rb room : Nat) (A : Option Addr) (n c : Nat) (L' : List Evt) (w' : World) : Prop :=
  ∃ A' n' c', Rb w' B0 rb room A' n' c' L' ∧ Chg (Rt rb A n c) w w' ∧ ∀ g, (Value.slice A' n' c').ownBlock = some g → (Value.slice A n c).ownBlock = some g ∨ w.heap.size ≤ g

theorem rs_same {w w' : World} {B0 rb room n c : Nat} {A : Option Addr} {L : List Evt} (h : Rb w B0 rb room A n c L) (hb : Below w.heap.size w w') : Rs w B0 rb room A n c L w' :=
  ⟨A, n, c, h.later hb, (chg_below hb).mono fun _ _ h => h.elim, fun g hg => .inl hg⟩

set_option maxHeartbeats 2000000 in
set_option maxRecDepth 100000 in
theorem refput_out {w : World} {B0 rb room n c : Nat} {A : Option Addr} {L : List Evt} (h : Rb w B0 rb room A n c L) (x : Evt) (hx : x.kind < 1 ∨ 3 < x.kind) :
    Calls Try.prog 13 #[ptr rb, ev x] w fun e w' => e = .returned (.bool false) ∧ Below w.heap.size w w' := by
  obtain ⟨k, b, r, c'⟩ := x
  simp only at hx
  go_enter Try.func13, Try.ntmps13
  by_cases h1 : k < 1
  · have d1 : decide (k < 1) = true := by simp; omega
    go_wp2
    refine at_world (fun X => Blk X w.heap.size #[.int .i64 k, .int .u8 b, .int .i64 r, .int .i64 c'] ∧ Below w.heap.size w X) ⟨blk_new _ _ _, (Below.refl _ _).alloc (Nat.le_refl _) _⟩ ?_
    rintro X HX
    have H1 := Lib.hid HX
    obtain ⟨y1, k1, j1⟩ := (show Blk _ _ _ from HX.1)
    clear HX
    go_quiet (fail)
    go_wp2
    go_ret
    exact ⟨rfl, below_drewN H1.out.2 _⟩
  · have d1 : decide (k < 1) = false := by simp; omega
    have d2 : decide (3 < k) = true := by simp; omega
    go_wp2
    refine at_world (fun X => Blk X w.heap.size #[.int .i64 k, .int .u8 b, .int .i64 r, .int .i64 c'] ∧ Below w.heap.size w X) ⟨blk_new _ _ _, (Below.refl _ _).alloc (Nat.le_refl _) _⟩ ?_
    rintro X HX
    have H1 := Lib.hid HX
    obtain ⟨y1, k1, j1⟩ := (show Blk _ _ _ from HX.1)
    clear HX
    go_quiet (fail)
    go_wp2
    go_ret
    exact ⟨rfl, below_drewN H1.out.2 _⟩

set_option maxHeartbeats 2000000 in
set_option maxRecDepth 100000 in
theorem refput_full {w : World} {B0 rb room n c : Nat} {A : Option Addr} {L : List Evt} (h : Rb w B0 rb room A n c L) (hn : n ≤ 1000000) (x : Evt) (h1 : 1 ≤ x.kind) (h3 : x.kind ≤ 3) (hf : room ≤ (ofK x.kind L).length) :
    Calls Try.prog 13 #[ptr rb, ev x] w fun e w' => e = .returned (.bool false) ∧ Below w.heap.size w w' := by
  obtain ⟨k, b, r, c'⟩ := x
  simp only at h1 h3 hf
  have d1 : decide (k < 1) = false := by simp; omega
  have d2 : decide (3 < k) = false := by simp; omega
  have d3 : decide ((room : Int) ≤ ((ofK k L).length : Int)) = true := by simp; omega
  have H := Lib.hid h
  clear h
  go_enter Try.func13, Try.ntmps13
  go_wp2
  refine at_world (fun X => (Blk X w.heap.size #[.int .i64 k, .int .u8 b, .int .i64 r, .int .i64 c'] ∧ Below w.heap.size w X) ∧ Rb X B0 rb room A n c L) ⟨⟨blk_new _ _ _, (Below.refl _ _).alloc (Nat.le_refl _) _⟩, H.out.later ((Below.refl _ _).alloc (Nat.le_refl _) _)⟩ ?_
  rintro X HX
  have H1 := Lib.hid HX
  obtain ⟨y1, k1, j1⟩ := (show Blk _ _ _ from HX.1.1)
  obtain ⟨y0, k0, j0⟩ := (show Blk _ _ _ from HX.2.blk)
  have HS : Hid (∀ m, Calls Try.prog 19 #[ptr rb, .int .i64 k] (X.drewN m) fun e w'' => e = .returned (.int .i64 ((ofK k L).length : Int)) ∧ ∃ m, w'' = X.drewN m) := Lib.hid (fun m => quiet_here (count_any (HX.2.later (below_drewN (Below.refl _ _) m)) k hn))
  clear HX
  go_quiet ((go_at_call 19; exact (HS.out _)))
  go_wp2
  go_ret
  exact ⟨rfl, below_drewN H1.out.1.2 _⟩
end Go.Proofs.Ytcoffbgpdbhjfaa
