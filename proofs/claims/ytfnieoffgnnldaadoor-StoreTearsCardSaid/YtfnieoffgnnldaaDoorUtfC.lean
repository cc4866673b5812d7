/- utf: a decoder's step. -/
import Derived.Test.YtfnieoffgnnldaaDoorUtfB
import Derived.RegionTactic
import Derived.BigRegion
namespace Go.Proofs.YtfnieoffgnnldaaDoor
open Go.RowKit
set_option linter.unusedVariables false
set_option linter.unusedSimpArgs false

/-- What step tells. -/
def Stepped (d : Value) (a b k : Int) (w : World) (e : Ending) (w' : World) : Prop := e = .returned (.tuple #[d, .agg #[.int .i32 a, .int .i32 b], .int .i64 k]) ∧ Below w.heap.size w w'

/-- What a callee leaves of three blocks that its caller had just laid. -/
theorem three_later {w w' : World} {a b c : Array Value} {s t u : TypeId} (hb : Below (((w.alloc (.cells a s)).alloc (.cells b t)).alloc (.cells c u)).heap.size (((w.alloc (.cells a s)).alloc (.cells b t)).alloc (.cells c u)) w') :
    (w.heap.size < w'.heap.size ∧ w.heap.size + 1 < w'.heap.size ∧ w.heap.size + 1 + 1 < w'.heap.size) ∧ Blk w' w.heap.size a ∧ Blk w' (w.heap.size + 1) b ∧ Blk w' (w.heap.size + 1 + 1) c := by
  obtain ⟨h1, h2, h3⟩ := blk_three w a b c s t u
  have k1 := h1.later hb h1.1
  have k2 := h2.later hb h2.1
  have k3 := h3.later hb h3.1
  exact ⟨⟨k1.1, k2.1, k3.1⟩, k1, k2, k3⟩

/-- What is known behind the last statement: both results' blocks, and that nothing older has turned. -/
structure Done (w : World) (d0 d1 d2 d3 a b : Value) (X : World) : Prop where
  c1 : ∀ j, X.cell? ⟨w.heap.size + 1, j, none⟩ = #[d0, d1, d2, d3][j]?
  c2 : ∀ j, X.cell? ⟨w.heap.size + 1 + 1, j, none⟩ = #[a, b][j]?
  below : Below w.heap.size w X

theorem done_of {w v : World} {d0 d1 d2 d3 a b e0 e1 e2 e3 f0 f1 : Value} (hb : Below w.heap.size w v) (h1 : Blk v (w.heap.size + 1) #[e0, e1, e2, e3]) (h2 : Blk v (w.heap.size + 1 + 1) #[f0, f1]) :
    Done w d0 d1 d2 d3 a b ((((((v.setCell ⟨w.heap.size + 1, 0, none⟩ d0).setCell ⟨w.heap.size + 1, 1, none⟩ d1).setCell ⟨w.heap.size + 1, 2, none⟩ d2).setCell ⟨w.heap.size + 1, 3, none⟩ d3).setCell ⟨w.heap.size + 1 + 1, 0, none⟩ a).setCell ⟨w.heap.size + 1 + 1, 1, none⟩ b) := by
  refine ⟨?_, ?_, ?_⟩
  · exact (((((((h1.set_ 0 (by simp) d0).set_ 1 (by simp) d1).set_ 2 (by simp) d2).set_ 3 (by simp) d3).far (p := ⟨w.heap.size + 1 + 1, 0, none⟩) (by simp) a).far (p := ⟨w.heap.size + 1 + 1, 1, none⟩) (by simp) b).2.1)
  · exact ((((((h2.far (p := ⟨w.heap.size + 1, 0, none⟩) (by simp) d0).far (p := ⟨w.heap.size + 1, 1, none⟩) (by simp) d1).far (p := ⟨w.heap.size + 1, 2, none⟩) (by simp) d2).far (p := ⟨w.heap.size + 1, 3, none⟩) (by simp) d3).set_ 0 (by simp) a).set_ 1 (by simp) b).2.1
  · exact (((((hb.setCell (by simp) _).setCell (by simp) _).setCell (by simp) _).setCell (by simp) _).setCell (by simp; omega) _).setCell (by simp; omega) _

theorem Done.alloc {w X : World} {d0 d1 d2 d3 a b : Value} (h : Done w d0 d1 d2 d3 a b X) (hz : w.heap.size + 1 + 1 < X.heap.size) (o : Obj) : Done w d0 d1 d2 d3 a b (X.alloc o) := by
  have hb := (Below.refl X.heap.size X).alloc (Nat.le_refl _) o
  exact ⟨fun j => (hb.cell (p := ⟨w.heap.size + 1, j, none⟩) (by show w.heap.size + 1 < _; omega)).trans (h.c1 j), fun j => (hb.cell (p := ⟨w.heap.size + 1 + 1, j, none⟩) hz).trans (h.c2 j), h.below.trans (hb.mono h.below.size)⟩

theorem Done.drew {w X : World} {d0 d1 d2 d3 a b : Value} (h : Done w d0 d1 d2 d3 a b X) : Done w d0 d1 d2 d3 a b X.drew := ⟨h.c1, h.c2, h.below.drew⟩

theorem below_three {w w' : World} {a b c : Array Value} {s t u : TypeId} (hb : Below (((w.alloc (.cells a s)).alloc (.cells b t)).alloc (.cells c u)).heap.size (((w.alloc (.cells a s)).alloc (.cells b t)).alloc (.cells c u)) w') : Below w.heap.size w w' := by
  have h := (((Below.refl w.heap.size w).alloc (Nat.le_refl _) (.cells a s)).alloc (by simp [World.size_alloc]) (.cells b t)).alloc (by simp only [World.size_alloc]; omega) (.cells c u)
  exact h.trans (hb.mono h.size)

set_option maxHeartbeats 2000000 in
theorem step_zero (b r : Int) (x y z n : Int) (t : Bool) (w : World) (b0 : 0 ≤ b) (b1 : b ≤ 255) (hb : ∀ w, Calls Tryd.prog 81 #[.int .u8 b] w (Begun (dcd x y z n) r t w)) :
    Calls Tryd.prog 69 #[dcd 0 0 0 0, .int .u8 b] w (Stepped (dcd x y z n) (if t then r else 0) 0 (if t then 1 else 0) w) := by
  have Hb := Lib.hid hb
  clear hb
  cases t
  · go_enter Tryd.func69, Tryd.ntmps69
    go_wp2_with (go_at_call 81; refine (Hb.out _).mono ?_; rintro e w' ⟨rfl, hb1⟩; obtain ⟨⟨z0, z1, z2⟩, B0, B1, B2⟩ := three_later hb1; obtain ⟨_, k0, j0⟩ := B0; obtain ⟨_, k1, j1⟩ := (show _ from B1); obtain ⟨_, k2, j2⟩ := (show _ from B2))
    go_region
    simp only [Exit.then]
    refine at_world (Done w (.int .u8 x) (.int .u8 y) (.int .u8 z) (.int .i64 n) (.int .i32 0) (.int .i32 0)) ?_ ?_
    rotate_left
    · rintro X ⟨c1, c2, hX⟩
      clear k0 k1 k2 j0 j1 j2 z0 z1 z2 hb1 B1 B2
      go_wp2
      exact bodyPost_ret (v := .tuple #[dcd x y z n, .agg #[.int .i32 0, .int .i32 0], .int .i64 0]) (by simp [results, Tryd.results69, go_sem, c1, c2]) rfl ⟨rfl, hX⟩
    · exact (((done_of (below_three hb1) B1 B2).alloc (by simp only [World.size_setCell]; exact z2) _).alloc (by simp only [World.size_setCell, World.size_alloc]; omega) _).drew
  · go_enter Tryd.func69, Tryd.ntmps69
    go_wp2_with (go_at_call 81; refine (Hb.out _).mono ?_; rintro e w' ⟨rfl, hb1⟩; obtain ⟨⟨z0, z1, z2⟩, B0, B1, B2⟩ := three_later hb1; obtain ⟨_, k0, j0⟩ := B0; obtain ⟨_, k1, j1⟩ := (show _ from B1); obtain ⟨_, k2, j2⟩ := (show _ from B2))
    go_region
    simp only [Exit.then]
    refine at_world (Done w (.int .u8 x) (.int .u8 y) (.int .u8 z) (.int .i64 n) (.int .i32 r) (.int .i32 0)) ?_ ?_
    rotate_left
    · rintro X ⟨c1, c2, hX⟩
      clear k0 k1 k2 j0 j1 j2 z0 z1 z2 hb1 B1 B2
      go_wp2
      exact bodyPost_ret (v := .tuple #[dcd x y z n, .agg #[.int .i32 r, .int .i32 0], .int .i64 1]) (by simp [results, Tryd.results69, go_sem, c1, c2]) rfl ⟨rfl, hX⟩
    · exact (((done_of (below_three hb1) B1 B2).alloc (by simp only [World.size_setCell]; exact z2) _).alloc (by simp only [World.size_setCell, World.size_alloc]; omega) _).drew

set_option maxHeartbeats 2000000 in
theorem step_off (h0 h1 h2 m b r : Int) (x y z n : Int) (t : Bool) (w : World) (g0 : 0 ≤ h0) (g1 : h0 ≤ 255) (m0 : 0 < m) (m1 : m ≤ 3) (b0 : 0 ≤ b) (b1 : b ≤ 255) (hg : goes h0 m b = false) (hb : ∀ w, Calls Tryd.prog 81 #[.int .u8 b] w (Begun (dcd x y z n) r t w)) :
    Calls Tryd.prog 69 #[dcd h0 h1 h2 m, .int .u8 b] w (Stepped (dcd x y z n) 65533 (if t then r else 0) (if t then 2 else 1) w) := by
  have Hb := Lib.hid hb
  have d0 : decide (0 < m) = true := decide_eq_true m0
  clear hb
  cases t
  · go_enter Tryd.func69, Tryd.ntmps69
    go_wp2_with (first
      | (go_at_call 78; refine (goes_any h0 h1 h2 m b _ g0 g1 (by omega) m1).mono ?_; rintro e w1 ⟨rfl, hg1⟩; obtain ⟨⟨z0, z1, z2⟩, B0, B1, B2⟩ := three_later hg1; obtain ⟨_, k0, j0⟩ := (show _ from B0); obtain ⟨_, k1, j1⟩ := (show _ from B1); obtain ⟨_, k2, j2⟩ := (show _ from B2))
      | (go_at_call 81; refine (Hb.out _).mono ?_; rintro e w' ⟨rfl, hb1⟩; clear k0 k1 k2 j0 j1 j2; have C0 := B0.later hb1 B0.1; have C1 := B1.later hb1 B1.1; have C2 := B2.later hb1 B2.1; obtain ⟨y0, k0, j0⟩ := (show _ from C0); obtain ⟨y1, k1, j1⟩ := (show _ from C1); obtain ⟨y2, k2, j2⟩ := (show _ from C2)))
    go_region
    simp only [Exit.then]
    refine at_world (Done w (.int .u8 x) (.int .u8 y) (.int .u8 z) (.int .i64 n) (.int .i32 65533) (.int .i32 0)) ?_ ?_
    rotate_left
    · rintro X ⟨c1, c2, hX⟩
      clear k0 k1 k2 j0 j1 j2 z0 z1 z2 hb1 B0 B1 B2 C0 C1 C2 y0 y1 y2 hg1
      go_wp2
      exact bodyPost_ret (v := .tuple #[dcd x y z n, .agg #[.int .i32 65533, .int .i32 0], .int .i64 1]) (by simp [results, Tryd.results69, go_sem, c1, c2]) rfl ⟨rfl, hX⟩
    · exact (((done_of ((below_three hg1).trans (hb1.mono (below_three hg1).size)) C1 C2).alloc (by simp only [World.size_setCell]; exact y2) _).alloc (by simp only [World.size_setCell, World.size_alloc]; omega) _).drew
  · go_enter Tryd.func69, Tryd.ntmps69
    go_wp2_with (first
      | (go_at_call 78; refine (goes_any h0 h1 h2 m b _ g0 g1 (by omega) m1).mono ?_; rintro e w1 ⟨rfl, hg1⟩; obtain ⟨⟨z0, z1, z2⟩, B0, B1, B2⟩ := three_later hg1; obtain ⟨_, k0, j0⟩ := (show _ from B0); obtain ⟨_, k1, j1⟩ := (show _ from B1); obtain ⟨_, k2, j2⟩ := (show _ from B2))
      | (go_at_call 81; refine (Hb.out _).mono ?_; rintro e w' ⟨rfl, hb1⟩; clear k0 k1 k2 j0 j1 j2; have C0 := B0.later hb1 B0.1; have C1 := B1.later hb1 B1.1; have C2 := B2.later hb1 B2.1; obtain ⟨y0, k0, j0⟩ := (show _ from C0); obtain ⟨y1, k1, j1⟩ := (show _ from C1); obtain ⟨y2, k2, j2⟩ := (show _ from C2)))
    go_region
    simp only [Exit.then]
    refine at_world (Done w (.int .u8 x) (.int .u8 y) (.int .u8 z) (.int .i64 n) (.int .i32 65533) (.int .i32 r)) ?_ ?_
    rotate_left
    · rintro X ⟨c1, c2, hX⟩
      clear k0 k1 k2 j0 j1 j2 z0 z1 z2 hb1 B0 B1 B2 C0 C1 C2 y0 y1 y2 hg1
      go_wp2
      exact bodyPost_ret (v := .tuple #[dcd x y z n, .agg #[.int .i32 65533, .int .i32 r], .int .i64 2]) (by simp [results, Tryd.results69, go_sem, c1, c2]) rfl ⟨rfl, hX⟩
    · exact (((done_of ((below_three hg1).trans (hb1.mono (below_three hg1).size)) C1 C2).alloc (by simp only [World.size_setCell]; exact y2) _).alloc (by simp only [World.size_setCell, World.size_alloc]; omega) _).drew

set_option maxHeartbeats 2000000 in
theorem step_whole_one (h0 x b v : Int)  (w : World) (g0 : 0 ≤ h0) (g1 : h0 ≤ 255) (b0 : 0 ≤ b) (b1 : b ≤ 255) (hg : goes h0 1 b = true) (hn : rowN h0 = 2) (hx : bits .andNot .u8 h0 (leadOf (rowN h0)) = x) (x0 : 0 ≤ x) (x1 : x < 32) (hv : x * 64 + b % 64 = v) :
    Calls Tryd.prog 69 #[dcd h0 0 0 1, .int .u8 b] w (Stepped (dcd 0 0 0 0) v 0 1 w) := by
  have HR := Lib.hid (row_any h0 g0 g1)
  have HX := Lib.hid hx
  have HV := Lib.hid hv
  have E : (rowN h0 == 2) = true := by simp [hn]
  have n0 : 0 ≤ rowN h0 := by omega
  have n1 : rowN h0 ≤ 4 := by omega
  clear hx hn hv
  go_enter Tryd.func69, Tryd.ntmps69
  go_wp2_with (first
    | (go_at_call 78; refine (goes_any h0 0 0 1 b _ g0 g1 (by omega) (by omega)).mono ?_; rintro e w1 ⟨rfl, hg1⟩; obtain ⟨⟨z0, z1, z2⟩, B0, B1, B2⟩ := three_later hg1; obtain ⟨_, k0, j0⟩ := (show _ from B0); obtain ⟨_, k1, j1⟩ := (show _ from B1); obtain ⟨_, k2, j2⟩ := (show _ from B2))
    | (go_at_call 79; refine (HR.out _).mono ?_; rintro e w' ⟨rfl, rfl⟩)
    | (go_at_call 80; refine (whole_one h0 x b _ g0 g1 b0 b1 (by omega) (by omega) HX.out x0 x1 0 0).mono ?_; rw [HV.out]; rintro e w' ⟨rfl, hb1⟩; clear k0 k1 k2 j0 j1 j2; have C0 := B0.later hb1 B0.1; have C1 := B1.later hb1 B1.1; have C2 := B2.later hb1 B2.1; obtain ⟨y0, k0, j0⟩ := (show _ from C0); obtain ⟨y1, k1, j1⟩ := (show _ from C1); obtain ⟨y2, k2, j2⟩ := (show _ from C2)))
  refine at_world (Done w (.int .u8 0) (.int .u8 0) (.int .u8 0) (.int .i64 0) (.int .i32 v) (.int .i32 0)) (done_of ((below_three hg1).trans (hb1.mono (below_three hg1).size)) C1 C2) ?_
  rintro X ⟨c1, c2, hX⟩
  exact bodyPost_ret (v := .tuple #[dcd 0 0 0 0, .agg #[.int .i32 v, .int .i32 0], .int .i64 1]) (by simp [results, Tryd.results69, go_sem, c1, c2]) rfl ⟨rfl, hX⟩

set_option maxHeartbeats 2000000 in
theorem step_whole_two (h0 x b v : Int) (h1 : Int) (e0 : 0 ≤ h1) (e1 : h1 ≤ 255) (w : World) (g0 : 0 ≤ h0) (g1 : h0 ≤ 255) (b0 : 0 ≤ b) (b1 : b ≤ 255) (hg : goes h0 2 b = true) (hn : rowN h0 = 3) (hx : bits .andNot .u8 h0 (leadOf (rowN h0)) = x) (x0 : 0 ≤ x) (x1 : x < 32) (hv : (x * 64 + h1 % 64) * 64 + b % 64 = v) :
    Calls Tryd.prog 69 #[dcd h0 h1 0 2, .int .u8 b] w (Stepped (dcd 0 0 0 0) v 0 1 w) := by
  have HR := Lib.hid (row_any h0 g0 g1)
  have HX := Lib.hid hx
  have HV := Lib.hid hv
  have E : (rowN h0 == 3) = true := by simp [hn]
  have n0 : 0 ≤ rowN h0 := by omega
  have n1 : rowN h0 ≤ 4 := by omega
  clear hx hn hv
  go_enter Tryd.func69, Tryd.ntmps69
  go_wp2_with (first
    | (go_at_call 78; refine (goes_any h0 h1 0 2 b _ g0 g1 (by omega) (by omega)).mono ?_; rintro e w1 ⟨rfl, hg1⟩; obtain ⟨⟨z0, z1, z2⟩, B0, B1, B2⟩ := three_later hg1; obtain ⟨_, k0, j0⟩ := (show _ from B0); obtain ⟨_, k1, j1⟩ := (show _ from B1); obtain ⟨_, k2, j2⟩ := (show _ from B2))
    | (go_at_call 79; refine (HR.out _).mono ?_; rintro e w' ⟨rfl, rfl⟩)
    | (go_at_call 80; refine (whole_two h0 x b _ g0 g1 b0 b1 (by omega) (by omega) HX.out x0 x1 h1 0 e0 e1).mono ?_; rw [HV.out]; rintro e w' ⟨rfl, hb1⟩; clear k0 k1 k2 j0 j1 j2; have C0 := B0.later hb1 B0.1; have C1 := B1.later hb1 B1.1; have C2 := B2.later hb1 B2.1; obtain ⟨y0, k0, j0⟩ := (show _ from C0); obtain ⟨y1, k1, j1⟩ := (show _ from C1); obtain ⟨y2, k2, j2⟩ := (show _ from C2)))
  refine at_world (Done w (.int .u8 0) (.int .u8 0) (.int .u8 0) (.int .i64 0) (.int .i32 v) (.int .i32 0)) (done_of ((below_three hg1).trans (hb1.mono (below_three hg1).size)) C1 C2) ?_
  rintro X ⟨c1, c2, hX⟩
  exact bodyPost_ret (v := .tuple #[dcd 0 0 0 0, .agg #[.int .i32 v, .int .i32 0], .int .i64 1]) (by simp [results, Tryd.results69, go_sem, c1, c2]) rfl ⟨rfl, hX⟩

set_option maxHeartbeats 2000000 in
theorem step_whole_three (h0 x b v : Int) (h1 h2 : Int) (e0 : 0 ≤ h1) (e1 : h1 ≤ 255) (f0 : 0 ≤ h2) (f1 : h2 ≤ 255) (w : World) (g0 : 0 ≤ h0) (g1 : h0 ≤ 255) (b0 : 0 ≤ b) (b1 : b ≤ 255) (hg : goes h0 3 b = true) (hn : rowN h0 = 4) (hx : bits .andNot .u8 h0 (leadOf (rowN h0)) = x) (x0 : 0 ≤ x) (x1 : x < 32) (hv : ((x * 64 + h1 % 64) * 64 + h2 % 64) * 64 + b % 64 = v) :
    Calls Tryd.prog 69 #[dcd h0 h1 h2 3, .int .u8 b] w (Stepped (dcd 0 0 0 0) v 0 1 w) := by
  have HR := Lib.hid (row_any h0 g0 g1)
  have HX := Lib.hid hx
  have HV := Lib.hid hv
  have E : (rowN h0 == 4) = true := by simp [hn]
  have n0 : 0 ≤ rowN h0 := by omega
  have n1 : rowN h0 ≤ 4 := by omega
  clear hx hn hv
  go_enter Tryd.func69, Tryd.ntmps69
  go_wp2_with (first
    | (go_at_call 78; refine (goes_any h0 h1 h2 3 b _ g0 g1 (by omega) (by omega)).mono ?_; rintro e w1 ⟨rfl, hg1⟩; obtain ⟨⟨z0, z1, z2⟩, B0, B1, B2⟩ := three_later hg1; obtain ⟨_, k0, j0⟩ := (show _ from B0); obtain ⟨_, k1, j1⟩ := (show _ from B1); obtain ⟨_, k2, j2⟩ := (show _ from B2))
    | (go_at_call 79; refine (HR.out _).mono ?_; rintro e w' ⟨rfl, rfl⟩)
    | (go_at_call 80; refine (whole_three h0 x b _ g0 g1 b0 b1 (by omega) (by omega) HX.out x0 x1 h1 h2 e0 e1 f0 f1).mono ?_; rw [HV.out]; rintro e w' ⟨rfl, hb1⟩; clear k0 k1 k2 j0 j1 j2; have C0 := B0.later hb1 B0.1; have C1 := B1.later hb1 B1.1; have C2 := B2.later hb1 B2.1; obtain ⟨y0, k0, j0⟩ := (show _ from C0); obtain ⟨y1, k1, j1⟩ := (show _ from C1); obtain ⟨y2, k2, j2⟩ := (show _ from C2)))
  refine at_world (Done w (.int .u8 0) (.int .u8 0) (.int .u8 0) (.int .i64 0) (.int .i32 v) (.int .i32 0)) (done_of ((below_three hg1).trans (hb1.mono (below_three hg1).size)) C1 C2) ?_
  rintro X ⟨c1, c2, hX⟩
  exact bodyPost_ret (v := .tuple #[dcd 0 0 0 0, .agg #[.int .i32 v, .int .i32 0], .int .i64 1]) (by simp [results, Tryd.results69, go_sem, c1, c2]) rfl ⟨rfl, hX⟩

end Go.Proofs.YtfnieoffgnnldaaDoor
