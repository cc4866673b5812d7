/- loop: the box; Next. -/
import Derived.Test.YtcoffbgpdbhjfaaLoopB
import Derived.Test.YtcoffbgpdbhjfaaChg
import Derived.BigQuiet
import Derived.Handy
namespace Go.Proofs.Ytcoffbgpdbhjfaa
open Go.Conc Go.RowKit
set_option linter.unusedVariables false
set_option linter.unusedSimpArgs false

def arr (q : List Evt) : Array Value := (q.map ev).toArray
theorem arr_push (q : List Evt) (x : Evt) : arr (q ++ [x]) = (arr q).push (ev x) := by simp [arr]
theorem arr_tail (x : Evt) (q : List Evt) : (arr (x :: q)).extract 1 (arr (x :: q)).size = arr q := by
  unfold arr
  apply Array.ext'
  simp
  exact List.take_of_length_le (by simp)
theorem arr_size (q : List Evt) : (arr q).size = q.length := by simp [arr]

/-- The box in the block bb: what waits of each kind. -/
structure Bx (X : World) (bb cb ct cs room : Nat) (qb qt qs : List Evt) : Prop where
  blk : Blk X bb #[.chan (some cb), .chan (some ct), .chan (some cs)]
  chb : ∃ s r, Ch X cb room (arr qb) s r
  cht : ∃ s r, Ch X ct room (arr qt) s r
  chs : ∃ s r, Ch X cs room (arr qs) s r
  ne1 : cb ≠ ct
  ne2 : cb ≠ cs
  ne3 : ct ≠ cs

abbrev Cs (cb ct cs : Nat) (k : Nat) : Prop := k = cb ∨ k = ct ∨ k = cs
abbrev ptr (gb : Nat) : Value := .pointer (some ⟨gb, 0, none⟩)

theorem Ch.later {X Y : World} {c cap s r : Nat} {q : Array Value} (h : Ch X c cap q s r) (hb : Below X.heap.size X Y) : Ch Y c cap q s r := (hb.block c (ch_lt h)).trans h
theorem Bx.later {X Y : World} {bb cb ct cs room : Nat} {qb qt qs : List Evt} (h : Bx X bb cb ct cs room qb qt qs) (hb : Below X.heap.size X Y) : Bx Y bb cb ct cs room qb qt qs :=
  ⟨h.blk.later hb h.blk.1, let ⟨s, r, k⟩ := h.chb; ⟨s, r, Ch.later k hb⟩, let ⟨s, r, k⟩ := h.cht; ⟨s, r, Ch.later k hb⟩, let ⟨s, r, k⟩ := h.chs; ⟨s, r, Ch.later k hb⟩, h.ne1, h.ne2, h.ne3⟩

theorem set_self {X : World} {c cap s r : Nat} {q : Array Value} (hc : c < X.heap.size) : Ch (X.setChan c cap q false s r false) c cap q s r := by
  simp [Ch, World.setChan, hc]
theorem set_other {X : World} {c d cap s r : Nat} {q : Array Value} (hd : d ≠ c) : (X.setChan c cap q false s r false).heap[d]? = X.heap[d]? := by
  simp only [World.setChan]
  rw [Array.getElem?_setIfInBounds_ne (fun e => hd e.symm)]
theorem set_size {X : World} {c cap s r : Nat} {q : Array Value} : (X.setChan c cap q false s r false).heap.size = X.heap.size := by simp [World.setChan]
theorem set_chg {X : World} {c cap s r : Nat} {q : Array Value} : Chg (fun k => k = c) X (X.setChan c cap q false s r false) := ⟨rfl, rfl, rfl, Nat.le_of_eq set_size.symm, fun k _ hs => set_other hs⟩
/-- Behind a channel's turn, and new blocks. -/
theorem turn_chg {X Y : World} {c cap s r : Nat} {q : Array Value} (hb : Below X.heap.size (X.setChan c cap q false s r false) Y) : Chg (fun k => k = c) X Y :=
  set_chg.trans ((chg_below (by rw [set_size]; exact hb)).mono fun _ _ h => h.elim)

theorem blk_cells {X : World} {g c : Nat} {cs : Array Value} {cap s r : Nat} {q : Array Value} (h : Blk X g cs) (h0 : 0 < cs.size) (hc : Ch X c cap q s r) : g ≠ c := by
  rintro rfl
  have h1 := h.2.1 0
  have e : X.heap[g]? = some (.chan cap q false s r false) := hc
  simp [World.cell?, e, h0] at h1

theorem turn_blk {X Y : World} {g c : Nat} {cs : Array Value} {cap cap' s r s' r' : Nat} {q q' : Array Value} (h : Blk X g cs) (h0 : 0 < cs.size) (hc : Ch X c cap' q' s' r') (hb : Below X.heap.size (X.setChan c cap q false s r false) Y) : Blk Y g cs :=
  h.chg (turn_chg hb) (blk_cells h h0 hc)
theorem turn_ch {X Y : World} {c d cap s r cap' s' r' : Nat} {q q' : Array Value} (hd : d ≠ c) (h : Ch X d cap' q' s' r') (hb : Below X.heap.size (X.setChan c cap q false s r false) Y) : Ch Y d cap' q' s' r' :=
  ((turn_chg hb).block d (ch_lt h) hd).trans h
theorem turn_self {X Y : World} {c cap s r : Nat} {q : Array Value} (hc : c < X.heap.size) (hb : Below X.heap.size (X.setChan c cap q false s r false) Y) : Ch Y c cap q s r :=
  (hb.block c hc).trans (set_self hc)

section
variable {X Y : World} {bb cb ct cs room s r : Nat} {qb qt qs q : List Evt}
theorem Bx.turn_b (h : Bx X bb cb ct cs room qb qt qs) (hb : Below X.heap.size (X.setChan cb room (arr q) false s r false) Y) : Bx Y bb cb ct cs room q qt qs := by
  obtain ⟨s1, r1, k1⟩ := h.chb
  obtain ⟨s2, r2, k2⟩ := h.cht
  obtain ⟨s3, r3, k3⟩ := h.chs
  exact ⟨turn_blk h.blk (by simp) k1 hb, ⟨_, _, turn_self (ch_lt k1) hb⟩, ⟨_, _, turn_ch h.ne1.symm k2 hb⟩, ⟨_, _, turn_ch h.ne2.symm k3 hb⟩, h.ne1, h.ne2, h.ne3⟩
theorem Bx.turn_t (h : Bx X bb cb ct cs room qb qt qs) (hb : Below X.heap.size (X.setChan ct room (arr q) false s r false) Y) : Bx Y bb cb ct cs room qb q qs := by
  obtain ⟨s1, r1, k1⟩ := h.chb
  obtain ⟨s2, r2, k2⟩ := h.cht
  obtain ⟨s3, r3, k3⟩ := h.chs
  exact ⟨turn_blk h.blk (by simp) k2 hb, ⟨_, _, turn_ch h.ne1 k1 hb⟩, ⟨_, _, turn_self (ch_lt k2) hb⟩, ⟨_, _, turn_ch h.ne3.symm k3 hb⟩, h.ne1, h.ne2, h.ne3⟩
theorem Bx.turn_s (h : Bx X bb cb ct cs room qb qt qs) (hb : Below X.heap.size (X.setChan cs room (arr q) false s r false) Y) : Bx Y bb cb ct cs room qb qt q := by
  obtain ⟨s1, r1, k1⟩ := h.chb
  obtain ⟨s2, r2, k2⟩ := h.cht
  obtain ⟨s3, r3, k3⟩ := h.chs
  exact ⟨turn_blk h.blk (by simp) k3 hb, ⟨_, _, turn_ch h.ne2 k1 hb⟩, ⟨_, _, turn_ch h.ne3 k2 hb⟩, ⟨_, _, turn_self (ch_lt k3) hb⟩, h.ne1, h.ne2, h.ne3⟩
end

theorem chg4 (X : World) (g : Nat) (a b c d : Value) : Chg (fun k => k = g) X ((((X.setCell ⟨g, 0, none⟩ a).setCell ⟨g, 1, none⟩ b).setCell ⟨g, 2, none⟩ c).setCell ⟨g, 3, none⟩ d) :=
  ((((Chg.refl (fun k => k = g) X).setCell g 0 rfl a).setCell g 1 rfl b).setCell g 2 rfl c).setCell g 3 rfl d
theorem Chg.alloc {S : Nat → Prop} {w v : World} (h : Chg S w v) (o : Obj) : Chg S w (v.alloc o) := h.trans ((chg_below ((Below.refl _ _).alloc (Nat.le_refl _) o)).mono fun _ _ h => h.elim)
theorem Bx.chg {T : Nat → Prop} {X Y : World} {bb cb ct cs room : Nat} {qb qt qs : List Evt} (h : Bx X bb cb ct cs room qb qt qs) (k : Chg T X Y) (h0 : ¬ T bb) (h1 : ¬ T cb) (h2 : ¬ T ct) (h3 : ¬ T cs) : Bx Y bb cb ct cs room qb qt qs := by
  obtain ⟨s1, r1, k1⟩ := h.chb
  obtain ⟨s2, r2, k2⟩ := h.cht
  obtain ⟨s3, r3, k3⟩ := h.chs
  exact ⟨h.blk.chg k h0, ⟨_, _, (k.block _ (ch_lt k1) h1).trans k1⟩, ⟨_, _, (k.block _ (ch_lt k2) h2).trans k2⟩, ⟨_, _, (k.block _ (ch_lt k3) h3).trans k3⟩, h.ne1, h.ne2, h.ne3⟩
theorem Bx.lt {X : World} {bb cb ct cs room : Nat} {qb qt qs : List Evt} (h : Bx X bb cb ct cs room qb qt qs) : bb < X.heap.size ∧ cb < X.heap.size ∧ ct < X.heap.size ∧ cs < X.heap.size := by
  obtain ⟨s1, r1, k1⟩ := h.chb
  obtain ⟨s2, r2, k2⟩ := h.cht
  obtain ⟨s3, r3, k3⟩ := h.chs
  exact ⟨h.blk.1, ch_lt k1, ch_lt k2, ch_lt k3⟩
/-- A block that is new since w turns: the box stays. -/
theorem Bx.fresh {w X Y : World} {bb cb ct cs room room' : Nat} {qb qt qs qb' qt' qs' : List Evt} (H : Bx w bb cb ct cs room' qb' qt' qs') (h : Bx X bb cb ct cs room qb qt qs) (k : Chg (fun k => k = w.heap.size) X Y) : Bx Y bb cb ct cs room qb qt qs := by
  obtain ⟨a, b, c, d⟩ := H.lt
  exact h.chg k (by omega) (by omega) (by omega) (by omega)

/-- What is told, and the box behind it. -/
def Told (w : World) (bb cb ct cs room : Nat) (x : Evt) (ok : Bool) (qb qt qs : List Evt) (e : Ending) (w' : World) : Prop :=
  e = .returned (.tuple #[ev x, .bool ok]) ∧ Bx w' bb cb ct cs room qb qt qs ∧ Chg (Cs cb ct cs) w w'

theorem take_q {w : World} {c room : Nat} {x : Evt} {q : List Evt} (h : ∃ s r, Ch w c room (arr (x :: q)) s r) : ∃ s r, Calls Try.prog 16 #[.chan (some c)] w fun e w' => e = .returned (.tuple #[ev x, .bool true]) ∧ Below w.heap.size (w.setChan c room (arr q) false s r false) w' := by
  obtain ⟨s, r, k⟩ := h
  refine ⟨s, r + 1, ?_⟩
  have := take_some w c room s r (arr (x :: q)) x k (by rw [arr_size]; simp) (by simp [arr])
  rwa [arr_tail] at this
theorem take_0 {w : World} {c room : Nat} (h : ∃ s r, Ch w c room (arr []) s r) : Calls Try.prog 16 #[.chan (some c)] w fun e w' => e = .returned (.tuple #[ev ⟨0, 0, 0, 0⟩, .bool false]) ∧ Below w.heap.size w w' := by
  obtain ⟨s, r, k⟩ := h
  exact take_none w c room s r k

set_option maxHeartbeats 2000000 in
set_option maxRecDepth 100000 in
theorem next_s {w : World} {bb cb ct cs room : Nat} {qb qt qs : List Evt} {x : Evt} (h : Bx w bb cb ct cs room qb qt (x :: qs)) :
    Calls Try.prog 6 #[ptr bb] w (Told w bb cb ct cs room x true qb qt qs) := by
  have H := Lib.hid h
  clear h
  have i0 : ∀ w : World, (Instr.index 47 (.agg #[.chan (some cs), .chan (some cb), .chan (some ct)]) (.int .i64 0)).run Try.prog w = .ok (.chan (some cs)) w := fun _ => by kernel_rfl
  have i1 : ∀ w : World, (Instr.index 47 (.agg #[.chan (some cs), .chan (some cb), .chan (some ct)]) (.int .i64 1)).run Try.prog w = .ok (.chan (some cb)) w := fun _ => by kernel_rfl
  have i2 : ∀ w : World, (Instr.index 47 (.agg #[.chan (some cs), .chan (some cb), .chan (some ct)]) (.int .i64 2)).run Try.prog w = .ok (.chan (some ct)) w := fun _ => by kernel_rfl
  go_enter Try.func6, Try.ntmps6
  go_wp2
  refine at_world (fun X => (Bx X bb cb ct cs room qb qt (x :: qs) ∧ Below w.heap.size w X) ∧ Blk X w.heap.size #[.int .i64 0, .int .u8 0, .int .i64 0, .int .i64 0]) ⟨⟨H.out.later ((Below.refl _ _).alloc (Nat.le_refl _) _), (Below.refl _ _).alloc (Nat.le_refl _) _⟩, blk_new _ _ _⟩ ?_
  rintro X HX
  have H1 := Lib.hid HX
  obtain ⟨y0, k0, j0⟩ := (show Blk _ _ _ from HX.1.1.blk)
  obtain ⟨y1, k1, j1⟩ := (show Blk _ _ _ from HX.2)
  clear HX
  go_quiet (fail)
  go_wp2_with fail
  refine at_world (fun Y => (Bx Y bb cb ct cs room qb qt (x :: qs) ∧ Below w.heap.size w Y) ∧ Blk Y w.heap.size #[.int .i64 0, .int .u8 0, .int .i64 0, .int .i64 0]) ⟨⟨H1.out.1.1.later (below_drewN (Below.refl _ _) _), below_drewN H1.out.1.2 _⟩, H1.out.2.drewN _⟩ ?_
  rintro Y0 HX
  have HY0 := Lib.hid HX
  clear HX y0 k0 j0 y1 k1 j1 H1
  refine wp_loop_rounds 4 ?_
  rw [rounds_succ]
  go_wp2_with fail
  obtain ⟨s1, r1, C⟩ := take_q HY0.out.1.1.chs
  have CC := Lib.hid C
  clear C
  (with_reducible refine CC.out.mono ?_)
  rintro e w5 ⟨rfl, hb⟩
  have hc := turn_chg hb
  have H5 := Lib.hid (And.intro (HY0.out.1.1.turn_s hb) (And.intro (((chg_below HY0.out.1.2).mono (T := Cs cb ct cs) fun _ _ h => h.elim).next hc (fun j _ e => by simp [Cs, e])) (turn_blk HY0.out.2 (by simp) HY0.out.1.1.chs.choose_spec.choose_spec hb)))
  clear hb hc CC
  obtain ⟨y5, k5, j5⟩ := (show Blk _ _ _ from H5.out.2.2)
  go_wp2_with fail
  refine at_world (fun Z => Bx Z bb cb ct cs room qb qt qs ∧ Chg (Cs cb ct cs) w Z ∧ Blk Z w.heap.size x.cells) ?_ ?_
  · have k := chg4 w5 w.heap.size (.int .i64 x.kind) (.int .u8 x.byte) (.int .i64 x.rows) (.int .i64 x.cols)
    exact ⟨H.out.fresh H5.out.1 (k.alloc _), (H5.out.2.1.next k (fun j hj e => by omega)).alloc _, (((((H5.out.2.2.set_ 0 (by simp) _).set_ 1 (by simp) _).set_ 2 (by simp) _).set_ 3 (by simp) _).alloc _ : Blk _ w.heap.size x.cells)⟩
  rintro Z ⟨hZ, hc, _, h, _⟩
  have x0 := h 0
  have x1 := h 1
  have x2 := h 2
  have x3 := h 3
  simp only [Evt.cells] at x0 x1 x2 x3
  refine bodyPost_ret (v := .tuple #[ev x, .bool true]) (by simp [results, Try.results6, go_sem, x0, x1, x2, x3]) rfl ⟨rfl, hZ, hc⟩

set_option maxHeartbeats 2000000 in
set_option maxRecDepth 100000 in
theorem next_b {w : World} {bb cb ct cs room : Nat} {qb qt qs : List Evt} {x : Evt} (h : Bx w bb cb ct cs room (x :: qb) qt []) :
    Calls Try.prog 6 #[ptr bb] w (Told w bb cb ct cs room x true qb qt []) := by
  have H := Lib.hid h
  clear h
  have i0 : ∀ w : World, (Instr.index 47 (.agg #[.chan (some cs), .chan (some cb), .chan (some ct)]) (.int .i64 0)).run Try.prog w = .ok (.chan (some cs)) w := fun _ => by kernel_rfl
  have i1 : ∀ w : World, (Instr.index 47 (.agg #[.chan (some cs), .chan (some cb), .chan (some ct)]) (.int .i64 1)).run Try.prog w = .ok (.chan (some cb)) w := fun _ => by kernel_rfl
  have i2 : ∀ w : World, (Instr.index 47 (.agg #[.chan (some cs), .chan (some cb), .chan (some ct)]) (.int .i64 2)).run Try.prog w = .ok (.chan (some ct)) w := fun _ => by kernel_rfl
  go_enter Try.func6, Try.ntmps6
  go_wp2
  refine at_world (fun X => (Bx X bb cb ct cs room (x :: qb) qt [] ∧ Below w.heap.size w X) ∧ Blk X w.heap.size #[.int .i64 0, .int .u8 0, .int .i64 0, .int .i64 0]) ⟨⟨H.out.later ((Below.refl _ _).alloc (Nat.le_refl _) _), (Below.refl _ _).alloc (Nat.le_refl _) _⟩, blk_new _ _ _⟩ ?_
  rintro X HX
  have H1 := Lib.hid HX
  obtain ⟨y0, k0, j0⟩ := (show Blk _ _ _ from HX.1.1.blk)
  obtain ⟨y1, k1, j1⟩ := (show Blk _ _ _ from HX.2)
  clear HX
  go_quiet (fail)
  go_wp2_with fail
  refine at_world (fun Y => (Bx Y bb cb ct cs room (x :: qb) qt [] ∧ Below w.heap.size w Y) ∧ Blk Y w.heap.size #[.int .i64 0, .int .u8 0, .int .i64 0, .int .i64 0]) ⟨⟨H1.out.1.1.later (below_drewN (Below.refl _ _) _), below_drewN H1.out.1.2 _⟩, H1.out.2.drewN _⟩ ?_
  rintro Y0 HX
  have HY0 := Lib.hid HX
  clear HX y0 k0 j0 y1 k1 j1 H1
  refine wp_loop_rounds 4 ?_
  rw [rounds_succ]
  go_wp2_with fail
  have C1 := Lib.hid (take_0 HY0.out.1.1.chs)
  (with_reducible refine C1.out.mono ?_)
  rintro e w1 ⟨rfl, hb⟩
  have HY1w := Lib.hid (show (Bx w1 bb cb ct cs room (x :: qb) qt [] ∧ Below w.heap.size w w1) ∧ Blk w1 w.heap.size #[.int .i64 0, .int .u8 0, .int .i64 0, .int .i64 0] from ⟨⟨HY0.out.1.1.later hb, HY0.out.1.2.trans (hb.mono HY0.out.1.2.size)⟩, HY0.out.2.later hb HY0.out.2.1⟩)
  clear hb C1
  go_wp2_with fail
  refine at_world (fun Y => (Bx Y bb cb ct cs room (x :: qb) qt [] ∧ Below w.heap.size w Y) ∧ Blk Y w.heap.size #[.int .i64 0, .int .u8 0, .int .i64 0, .int .i64 0]) ⟨⟨HY1w.out.1.1.later ((Below.refl _ _).alloc (Nat.le_refl _) _), HY1w.out.1.2.alloc HY1w.out.1.2.size _⟩, HY1w.out.2.alloc _⟩ ?_
  rintro Y1 HX
  have HY1 := Lib.hid HX
  clear HX HY1w
  rw [rounds_succ]
  go_wp2_with fail
  obtain ⟨s1, r1, C⟩ := take_q HY1.out.1.1.chb
  have CC := Lib.hid C
  clear C
  (with_reducible refine CC.out.mono ?_)
  rintro e w5 ⟨rfl, hb⟩
  have hc := turn_chg hb
  have H5 := Lib.hid (And.intro (HY1.out.1.1.turn_b hb) (And.intro (((chg_below HY1.out.1.2).mono (T := Cs cb ct cs) fun _ _ h => h.elim).next hc (fun j _ e => by simp [Cs, e])) (turn_blk HY1.out.2 (by simp) HY1.out.1.1.chb.choose_spec.choose_spec hb)))
  clear hb hc CC
  obtain ⟨y5, k5, j5⟩ := (show Blk _ _ _ from H5.out.2.2)
  go_wp2_with fail
  refine at_world (fun Z => Bx Z bb cb ct cs room qb qt [] ∧ Chg (Cs cb ct cs) w Z ∧ Blk Z w.heap.size x.cells) ?_ ?_
  · have k := chg4 w5 w.heap.size (.int .i64 x.kind) (.int .u8 x.byte) (.int .i64 x.rows) (.int .i64 x.cols)
    exact ⟨H.out.fresh H5.out.1 (k.alloc _), (H5.out.2.1.next k (fun j hj e => by omega)).alloc _, (((((H5.out.2.2.set_ 0 (by simp) _).set_ 1 (by simp) _).set_ 2 (by simp) _).set_ 3 (by simp) _).alloc _ : Blk _ w.heap.size x.cells)⟩
  rintro Z ⟨hZ, hc, _, h, _⟩
  have x0 := h 0
  have x1 := h 1
  have x2 := h 2
  have x3 := h 3
  simp only [Evt.cells] at x0 x1 x2 x3
  refine bodyPost_ret (v := .tuple #[ev x, .bool true]) (by simp [results, Try.results6, go_sem, x0, x1, x2, x3]) rfl ⟨rfl, hZ, hc⟩

set_option maxHeartbeats 2000000 in
set_option maxRecDepth 100000 in
theorem next_t {w : World} {bb cb ct cs room : Nat} {qb qt qs : List Evt} {x : Evt} (h : Bx w bb cb ct cs room [] (x :: qt) []) :
    Calls Try.prog 6 #[ptr bb] w (Told w bb cb ct cs room x true [] qt []) := by
  have H := Lib.hid h
  clear h
  have i0 : ∀ w : World, (Instr.index 47 (.agg #[.chan (some cs), .chan (some cb), .chan (some ct)]) (.int .i64 0)).run Try.prog w = .ok (.chan (some cs)) w := fun _ => by kernel_rfl
  have i1 : ∀ w : World, (Instr.index 47 (.agg #[.chan (some cs), .chan (some cb), .chan (some ct)]) (.int .i64 1)).run Try.prog w = .ok (.chan (some cb)) w := fun _ => by kernel_rfl
  have i2 : ∀ w : World, (Instr.index 47 (.agg #[.chan (some cs), .chan (some cb), .chan (some ct)]) (.int .i64 2)).run Try.prog w = .ok (.chan (some ct)) w := fun _ => by kernel_rfl
  go_enter Try.func6, Try.ntmps6
  go_wp2
  refine at_world (fun X => (Bx X bb cb ct cs room [] (x :: qt) [] ∧ Below w.heap.size w X) ∧ Blk X w.heap.size #[.int .i64 0, .int .u8 0, .int .i64 0, .int .i64 0]) ⟨⟨H.out.later ((Below.refl _ _).alloc (Nat.le_refl _) _), (Below.refl _ _).alloc (Nat.le_refl _) _⟩, blk_new _ _ _⟩ ?_
  rintro X HX
  have H1 := Lib.hid HX
  obtain ⟨y0, k0, j0⟩ := (show Blk _ _ _ from HX.1.1.blk)
  obtain ⟨y1, k1, j1⟩ := (show Blk _ _ _ from HX.2)
  clear HX
  go_quiet (fail)
  go_wp2_with fail
  refine at_world (fun Y => (Bx Y bb cb ct cs room [] (x :: qt) [] ∧ Below w.heap.size w Y) ∧ Blk Y w.heap.size #[.int .i64 0, .int .u8 0, .int .i64 0, .int .i64 0]) ⟨⟨H1.out.1.1.later (below_drewN (Below.refl _ _) _), below_drewN H1.out.1.2 _⟩, H1.out.2.drewN _⟩ ?_
  rintro Y0 HX
  have HY0 := Lib.hid HX
  clear HX y0 k0 j0 y1 k1 j1 H1
  refine wp_loop_rounds 4 ?_
  rw [rounds_succ]
  go_wp2_with fail
  have C1 := Lib.hid (take_0 HY0.out.1.1.chs)
  (with_reducible refine C1.out.mono ?_)
  rintro e w1 ⟨rfl, hb⟩
  have HY1w := Lib.hid (show (Bx w1 bb cb ct cs room [] (x :: qt) [] ∧ Below w.heap.size w w1) ∧ Blk w1 w.heap.size #[.int .i64 0, .int .u8 0, .int .i64 0, .int .i64 0] from ⟨⟨HY0.out.1.1.later hb, HY0.out.1.2.trans (hb.mono HY0.out.1.2.size)⟩, HY0.out.2.later hb HY0.out.2.1⟩)
  clear hb C1
  go_wp2_with fail
  refine at_world (fun Y => (Bx Y bb cb ct cs room [] (x :: qt) [] ∧ Below w.heap.size w Y) ∧ Blk Y w.heap.size #[.int .i64 0, .int .u8 0, .int .i64 0, .int .i64 0]) ⟨⟨HY1w.out.1.1.later ((Below.refl _ _).alloc (Nat.le_refl _) _), HY1w.out.1.2.alloc HY1w.out.1.2.size _⟩, HY1w.out.2.alloc _⟩ ?_
  rintro Y1 HX
  have HY1 := Lib.hid HX
  clear HX HY1w
  rw [rounds_succ]
  go_wp2_with fail
  have C2 := Lib.hid (take_0 HY1.out.1.1.chb)
  (with_reducible refine C2.out.mono ?_)
  rintro e w2 ⟨rfl, hb⟩
  have HY2w := Lib.hid (show (Bx w2 bb cb ct cs room [] (x :: qt) [] ∧ Below w.heap.size w w2) ∧ Blk w2 w.heap.size #[.int .i64 0, .int .u8 0, .int .i64 0, .int .i64 0] from ⟨⟨HY1.out.1.1.later hb, HY1.out.1.2.trans (hb.mono HY1.out.1.2.size)⟩, HY1.out.2.later hb HY1.out.2.1⟩)
  clear hb C2
  go_wp2_with fail
  refine at_world (fun Y => (Bx Y bb cb ct cs room [] (x :: qt) [] ∧ Below w.heap.size w Y) ∧ Blk Y w.heap.size #[.int .i64 0, .int .u8 0, .int .i64 0, .int .i64 0]) ⟨⟨HY2w.out.1.1.later ((Below.refl _ _).alloc (Nat.le_refl _) _), HY2w.out.1.2.alloc HY2w.out.1.2.size _⟩, HY2w.out.2.alloc _⟩ ?_
  rintro Y2 HX
  have HY2 := Lib.hid HX
  clear HX HY2w
  rw [rounds_succ]
  go_wp2_with fail
  obtain ⟨s1, r1, C⟩ := take_q HY2.out.1.1.cht
  have CC := Lib.hid C
  clear C
  (with_reducible refine CC.out.mono ?_)
  rintro e w5 ⟨rfl, hb⟩
  have hc := turn_chg hb
  have H5 := Lib.hid (And.intro (HY2.out.1.1.turn_t hb) (And.intro (((chg_below HY2.out.1.2).mono (T := Cs cb ct cs) fun _ _ h => h.elim).next hc (fun j _ e => by simp [Cs, e])) (turn_blk HY2.out.2 (by simp) HY2.out.1.1.cht.choose_spec.choose_spec hb)))
  clear hb hc CC
  obtain ⟨y5, k5, j5⟩ := (show Blk _ _ _ from H5.out.2.2)
  go_wp2_with fail
  refine at_world (fun Z => Bx Z bb cb ct cs room [] qt [] ∧ Chg (Cs cb ct cs) w Z ∧ Blk Z w.heap.size x.cells) ?_ ?_
  · have k := chg4 w5 w.heap.size (.int .i64 x.kind) (.int .u8 x.byte) (.int .i64 x.rows) (.int .i64 x.cols)
    exact ⟨H.out.fresh H5.out.1 (k.alloc _), (H5.out.2.1.next k (fun j hj e => by omega)).alloc _, (((((H5.out.2.2.set_ 0 (by simp) _).set_ 1 (by simp) _).set_ 2 (by simp) _).set_ 3 (by simp) _).alloc _ : Blk _ w.heap.size x.cells)⟩
  rintro Z ⟨hZ, hc, _, h, _⟩
  have x0 := h 0
  have x1 := h 1
  have x2 := h 2
  have x3 := h 3
  simp only [Evt.cells] at x0 x1 x2 x3
  refine bodyPost_ret (v := .tuple #[ev x, .bool true]) (by simp [results, Try.results6, go_sem, x0, x1, x2, x3]) rfl ⟨rfl, hZ, hc⟩

set_option maxHeartbeats 2000000 in
set_option maxRecDepth 100000 in
theorem next_0 {w : World} {bb cb ct cs room : Nat}  (h : Bx w bb cb ct cs room [] [] []) :
    Calls Try.prog 6 #[ptr bb] w (Told w bb cb ct cs room ⟨0, 0, 0, 0⟩ false [] [] []) := by
  have H := Lib.hid h
  clear h
  have i0 : ∀ w : World, (Instr.index 47 (.agg #[.chan (some cs), .chan (some cb), .chan (some ct)]) (.int .i64 0)).run Try.prog w = .ok (.chan (some cs)) w := fun _ => by kernel_rfl
  have i1 : ∀ w : World, (Instr.index 47 (.agg #[.chan (some cs), .chan (some cb), .chan (some ct)]) (.int .i64 1)).run Try.prog w = .ok (.chan (some cb)) w := fun _ => by kernel_rfl
  have i2 : ∀ w : World, (Instr.index 47 (.agg #[.chan (some cs), .chan (some cb), .chan (some ct)]) (.int .i64 2)).run Try.prog w = .ok (.chan (some ct)) w := fun _ => by kernel_rfl
  go_enter Try.func6, Try.ntmps6
  go_wp2
  refine at_world (fun X => (Bx X bb cb ct cs room [] [] [] ∧ Below w.heap.size w X) ∧ Blk X w.heap.size #[.int .i64 0, .int .u8 0, .int .i64 0, .int .i64 0]) ⟨⟨H.out.later ((Below.refl _ _).alloc (Nat.le_refl _) _), (Below.refl _ _).alloc (Nat.le_refl _) _⟩, blk_new _ _ _⟩ ?_
  rintro X HX
  have H1 := Lib.hid HX
  obtain ⟨y0, k0, j0⟩ := (show Blk _ _ _ from HX.1.1.blk)
  obtain ⟨y1, k1, j1⟩ := (show Blk _ _ _ from HX.2)
  clear HX
  go_quiet (fail)
  go_wp2_with fail
  refine at_world (fun Y => (Bx Y bb cb ct cs room [] [] [] ∧ Below w.heap.size w Y) ∧ Blk Y w.heap.size #[.int .i64 0, .int .u8 0, .int .i64 0, .int .i64 0]) ⟨⟨H1.out.1.1.later (below_drewN (Below.refl _ _) _), below_drewN H1.out.1.2 _⟩, H1.out.2.drewN _⟩ ?_
  rintro Y0 HX
  have HY0 := Lib.hid HX
  clear HX y0 k0 j0 y1 k1 j1 H1
  refine wp_loop_rounds 4 ?_
  rw [rounds_succ]
  go_wp2_with fail
  have C1 := Lib.hid (take_0 HY0.out.1.1.chs)
  (with_reducible refine C1.out.mono ?_)
  rintro e w1 ⟨rfl, hb⟩
  have HY1w := Lib.hid (show (Bx w1 bb cb ct cs room [] [] [] ∧ Below w.heap.size w w1) ∧ Blk w1 w.heap.size #[.int .i64 0, .int .u8 0, .int .i64 0, .int .i64 0] from ⟨⟨HY0.out.1.1.later hb, HY0.out.1.2.trans (hb.mono HY0.out.1.2.size)⟩, HY0.out.2.later hb HY0.out.2.1⟩)
  clear hb C1
  go_wp2_with fail
  refine at_world (fun Y => (Bx Y bb cb ct cs room [] [] [] ∧ Below w.heap.size w Y) ∧ Blk Y w.heap.size #[.int .i64 0, .int .u8 0, .int .i64 0, .int .i64 0]) ⟨⟨HY1w.out.1.1.later ((Below.refl _ _).alloc (Nat.le_refl _) _), HY1w.out.1.2.alloc HY1w.out.1.2.size _⟩, HY1w.out.2.alloc _⟩ ?_
  rintro Y1 HX
  have HY1 := Lib.hid HX
  clear HX HY1w
  rw [rounds_succ]
  go_wp2_with fail
  have C2 := Lib.hid (take_0 HY1.out.1.1.chb)
  (with_reducible refine C2.out.mono ?_)
  rintro e w2 ⟨rfl, hb⟩
  have HY2w := Lib.hid (show (Bx w2 bb cb ct cs room [] [] [] ∧ Below w.heap.size w w2) ∧ Blk w2 w.heap.size #[.int .i64 0, .int .u8 0, .int .i64 0, .int .i64 0] from ⟨⟨HY1.out.1.1.later hb, HY1.out.1.2.trans (hb.mono HY1.out.1.2.size)⟩, HY1.out.2.later hb HY1.out.2.1⟩)
  clear hb C2
  go_wp2_with fail
  refine at_world (fun Y => (Bx Y bb cb ct cs room [] [] [] ∧ Below w.heap.size w Y) ∧ Blk Y w.heap.size #[.int .i64 0, .int .u8 0, .int .i64 0, .int .i64 0]) ⟨⟨HY2w.out.1.1.later ((Below.refl _ _).alloc (Nat.le_refl _) _), HY2w.out.1.2.alloc HY2w.out.1.2.size _⟩, HY2w.out.2.alloc _⟩ ?_
  rintro Y2 HX
  have HY2 := Lib.hid HX
  clear HX HY2w
  rw [rounds_succ]
  go_wp2_with fail
  have C3 := Lib.hid (take_0 HY2.out.1.1.cht)
  (with_reducible refine C3.out.mono ?_)
  rintro e w3 ⟨rfl, hb⟩
  have HY3w := Lib.hid (show (Bx w3 bb cb ct cs room [] [] [] ∧ Below w.heap.size w w3) ∧ Blk w3 w.heap.size #[.int .i64 0, .int .u8 0, .int .i64 0, .int .i64 0] from ⟨⟨HY2.out.1.1.later hb, HY2.out.1.2.trans (hb.mono HY2.out.1.2.size)⟩, HY2.out.2.later hb HY2.out.2.1⟩)
  clear hb C3
  go_wp2_with fail
  refine at_world (fun Y => (Bx Y bb cb ct cs room [] [] [] ∧ Below w.heap.size w Y) ∧ Blk Y w.heap.size #[.int .i64 0, .int .u8 0, .int .i64 0, .int .i64 0]) ⟨⟨HY3w.out.1.1.later ((Below.refl _ _).alloc (Nat.le_refl _) _), HY3w.out.1.2.alloc HY3w.out.1.2.size _⟩, HY3w.out.2.alloc _⟩ ?_
  rintro Y3 HX
  have HY3 := Lib.hid HX
  clear HX HY3w
  rw [rounds_succ]
  have hz := HY3.out
  obtain ⟨y5, k5, j5⟩ := (show Blk _ _ _ from hz.2)
  clear hz
  go_wp2_with fail
  refine at_world (fun Z => Bx Z bb cb ct cs room [] [] [] ∧ Chg (Cs cb ct cs) w Z ∧ Blk Z w.heap.size #[.int .i64 0, .int .u8 0, .int .i64 0, .int .i64 0]) ?_ ?_
  · have k := chg4 Y3 w.heap.size (.int .i64 0) (.int .u8 0) (.int .i64 0) (.int .i64 0)
    exact ⟨H.out.fresh HY3.out.1.1 k, (((chg_below HY3.out.1.2).mono (T := Cs cb ct cs) fun _ _ h => h.elim).next k (fun j hj e => by omega)), ((((HY3.out.2.set_ 0 (by simp) _).set_ 1 (by simp) _).set_ 2 (by simp) _).set_ 3 (by simp) _ : Blk _ w.heap.size #[.int .i64 0, .int .u8 0, .int .i64 0, .int .i64 0])⟩
  rintro Z ⟨hZ, hc, _, h, _⟩
  have x0 := h 0
  have x1 := h 1
  have x2 := h 2
  have x3 := h 3
  refine bodyPost_ret (v := .tuple #[ev ⟨0, 0, 0, 0⟩, .bool false]) (by simp [results, Try.results6, go_sem, x0, x1, x2, x3]) rfl ⟨rfl, hZ, hc⟩

end Go.Proofs.Ytcoffbgpdbhjfaa
