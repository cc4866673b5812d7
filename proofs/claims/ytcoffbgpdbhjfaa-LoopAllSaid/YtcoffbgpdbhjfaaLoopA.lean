/- loop: put and take: a select of one case with a default. -/
import Derived.Test.YtcoffbgpdbhjfaaKit
import Derived.Conc.LoneSelect
import Derived.KernelRfl
import Derived.Laws.Rows
namespace Go.Proofs.Ytcoffbgpdbhjfaa
open Go.Conc Go.RowKit
set_option linter.unusedVariables false
set_option linter.unusedSimpArgs false

/-- An event. -/
structure Evt where
  kind : Int
  byte : Int
  rows : Int
  cols : Int
instance : DecidableEq Evt := fun a b => decidable_of_iff (a.kind = b.kind ∧ a.byte = b.byte ∧ a.rows = b.rows ∧ a.cols = b.cols) (by
  obtain ⟨k, x, r, c⟩ := a
  obtain ⟨k', x', r', c'⟩ := b
  simp)
instance : Inhabited Evt := ⟨⟨0, 0, 0, 0⟩⟩
def Evt.cells (e : Evt) : Array Value := #[.int .i64 e.kind, .int .u8 e.byte, .int .i64 e.rows, .int .i64 e.cols]
abbrev ev (e : Evt) : Value := .agg #[.int .i64 e.kind, .int .u8 e.byte, .int .i64 e.rows, .int .i64 e.cols]

/-- A channel's block. -/
abbrev Ch (w : World) (c cap : Nat) (buf : Array Value) (s r : Nat) : Prop := w.heap[c]? = some (.chan cap buf false s r false)

theorem ch_lt {w : World} {c cap s r : Nat} {buf : Array Value} (h : Ch w c cap buf s r) : c < w.heap.size := by
  rcases Nat.lt_or_ge c w.heap.size with h1 | h1
  · exact h1
  · have h2 : w.heap[c]? = none := Array.getElem?_eq_none h1
    unfold Ch at h
    rw [h2] at h; cases h

/-- A channel turned behind a new block: as if turned ahead of it. -/
theorem alloc_set (w : World) {c : Nat} (o : Obj) (hc : c < w.heap.size) (cap : Nat) (buf : Array Value) (cl : Bool) (s r : Nat) (tm : Bool) : Below w.heap.size (w.setChan c cap buf cl s r tm) ((w.alloc o).setChan c cap buf cl s r tm) := by
  refine ⟨rfl, rfl, rfl, by simp [World.setChan], fun k hk => ?_⟩
  simp only [World.setChan]
  by_cases h : k = c
  · subst h
    rw [Array.getElem?_setIfInBounds_self_of_lt hc, Array.getElem?_setIfInBounds_self_of_lt (by simp; omega)]
  · rw [Array.getElem?_setIfInBounds_ne (by omega), Array.getElem?_setIfInBounds_ne (by omega)]
    exact heap_alloc_old w o hk

theorem blk_set_chan (w : World) (c cap : Nat) (cs : Array Value) (t : TypeId) (buf : Array Value) (s r : Nat) (tm : Bool) (hc : c < w.heap.size) : Blk ((w.alloc (.cells cs t)).setChan c cap buf false s r tm) w.heap.size cs := by
  have e : ((w.alloc (.cells cs t)).setChan c cap buf false s r tm).heap[w.heap.size]? = (w.alloc (.cells cs t)).heap[w.heap.size]? := by
    simp only [World.setChan]
    rw [Array.getElem?_setIfInBounds_ne (by omega)]
  have hb := blk_new w cs t
  refine ⟨by simp [World.setChan], fun j => ?_, fun j => ?_⟩
  · exact (World.cell?_of_block (a := ⟨w.heap.size, j, none⟩) e).trans (hb.2.1 j)
  · exact (World.frozen?_of_block (a := ⟨w.heap.size, j, none⟩) e).trans (hb.2.2 j)

set_option maxRecDepth 100000 in
set_option maxHeartbeats 2000000 in
theorem put_room (w : World) (c cap s r : Nat) (buf : Array Value) (x : Evt) (hc : Ch w c cap buf s r) (hroom : buf.size < cap) :
    Calls Try.prog 17 #[.chan (some c), ev x] w fun e w' => e = .returned (.bool true) ∧ Below w.heap.size (w.setChan c cap (buf.push (ev x)) false (s + 1) r false) w' := by
  refine calls_of_loneTo (fun cs => ?_) (by rintro _ ⟨h, _⟩; cases h)
  have e : Frame.enter Try.prog 17 #[.chan (some c), ev x] .normal = (base 17).at ⟨#[.chan (some c), ev x, undef, undef, undef, undef, undef, undef, undef, undef], []⟩ [.code (Try.f17.body.getD .skip)] := by
    simp [Frame.enter, Frame.at, Try.func17, base, Try.f17]
  rw [e]
  refine LoneTo.goes (n := 40) ?_
  simp only [Try.f17, Option.getD_some]
  s_c stepG_seq
  s_reg
  s_op
  s_op
  s_c stepG_region_end
  s_c stepG_seq
  s_c stepG_seq
  s_reg
  s_op
  s_c stepG_region_end
  s_reg
  s_op
  s_c stepG_region_end
  s_c stepG_seq
  s_reg
  s_stop
  refine LoneTo.step (step_lone_select_send_room (c := c) (cap := cap) (buf := buf) (s := s) (r := r) (tm := false) (stepG_comm (cases := #[scase c (ev x) (.agg #[.int .i64 0, .int .u8 0, .int .i64 0, .int .i64 0])]) (blocking := false) (shape := .select) (w' := (w.alloc (.cells x.cells 23))) rfl rfl (by decide) (by simp [go_sem, execOp, scase, Act.eval]; rfl)) ((heap_alloc_old w _ (ch_lt hc)).trans hc) hroom) ?_
  rw [Frame.finish_at]
  walk_nrm
  refine LoneTo.goes (n := 30) ?_
  s_op
  s_op
  s_c stepG_region_end
  s_c stepG_block
  s_cond true
  s_c stepG_seq
  s_reg
  s_op
  s_c stepG_region_end
  s_c stepG_ret'
  s_stop
  refine LoneTo.done ⟨.returned (.bool true), _, rfl, ⟨rfl, alloc_set w _ (ch_lt hc) _ _ _ _ _ _⟩, rfl, rfl, rfl, rfl, _, Try.func17, by simp [results, Try.f17, Frame.at]⟩

set_option maxRecDepth 100000 in
set_option maxHeartbeats 2000000 in
theorem put_full (w : World) (c cap s r : Nat) (buf : Array Value) (x : Evt) (hc : Ch w c cap buf s r) (hfull : cap ≤ buf.size) :
    Calls Try.prog 17 #[.chan (some c), ev x] w fun e w' => e = .returned (.bool false) ∧ Below w.heap.size w w' := by
  refine calls_of_loneTo (fun cs => ?_) (by rintro _ ⟨h, _⟩; cases h)
  have e : Frame.enter Try.prog 17 #[.chan (some c), ev x] .normal = (base 17).at ⟨#[.chan (some c), ev x, undef, undef, undef, undef, undef, undef, undef, undef], []⟩ [.code (Try.f17.body.getD .skip)] := by
    simp [Frame.enter, Frame.at, Try.func17, base, Try.f17]
  rw [e]
  refine LoneTo.goes (n := 40) ?_
  simp only [Try.f17, Option.getD_some]
  s_c stepG_seq
  s_reg
  s_op
  s_op
  s_c stepG_region_end
  s_c stepG_seq
  s_c stepG_seq
  s_reg
  s_op
  s_c stepG_region_end
  s_reg
  s_op
  s_c stepG_region_end
  s_c stepG_seq
  s_reg
  s_stop
  refine LoneTo.step (step_lone_select_send_full (c := c) (cap := cap) (buf := buf) (s := s) (r := r) (tm := false) (stepG_comm (cases := #[scase c (ev x) (.agg #[.int .i64 0, .int .u8 0, .int .i64 0, .int .i64 0])]) (blocking := false) (shape := .select) (w' := (w.alloc (.cells x.cells 23))) rfl rfl (by decide) (by simp [go_sem, execOp, scase, Act.eval]; rfl)) ((heap_alloc_old w _ (ch_lt hc)).trans hc) hfull) ?_
  rw [Frame.finish_at]
  walk_nrm
  refine LoneTo.goes (n := 30) ?_
  s_op
  s_op
  s_c stepG_region_end
  s_c stepG_block
  s_cond false
  s_c stepG_seq
  s_reg
  s_op
  s_c stepG_region_end
  s_c stepG_ret'
  s_stop
  refine LoneTo.done ⟨.returned (.bool false), _, rfl, ⟨rfl, (Below.refl _ _).alloc (Nat.le_refl _) _⟩, rfl, rfl, rfl, rfl, _, Try.func17, by simp [results, Try.f17, Frame.at]⟩

set_option maxRecDepth 100000 in
set_option maxHeartbeats 2000000 in
theorem take_some (w : World) (c cap s r : Nat) (buf : Array Value) (x : Evt) (hc : Ch w c cap buf s r) (hsome : 0 < buf.size) (hx : buf.getD 0 undef = ev x) :
    Calls Try.prog 16 #[.chan (some c)] w fun e w' => e = .returned (.tuple #[ev x, .bool true]) ∧ Below w.heap.size (w.setChan c cap (buf.extract 1 buf.size) false s (r + 1) false) w' := by
  refine calls_of_loneTo (fun cs => ?_) (by rintro _ ⟨h, _⟩; cases h)
  have e : Frame.enter Try.prog 16 #[.chan (some c)] .normal = (base 16).at ⟨#[.chan (some c), undef, undef, undef, undef, undef, undef, undef, undef, undef, undef, undef], []⟩ [.code (Try.f16.body.getD .skip)] := by
    simp [Frame.enter, Frame.at, Try.func16, base, Try.f16]
  rw [e]
  refine LoneTo.goes (n := 40) ?_
  simp only [Try.f16, Option.getD_some]
  s_c stepG_seq
  s_reg
  s_op
  s_op
  s_c stepG_region_end
  s_c stepG_seq
  s_reg
  s_op
  s_c stepG_region_end
  s_c stepG_seq
  s_reg
  s_stop
  refine LoneTo.step (step_lone_select_recv_buf (c := c) (z := .agg #[.int .i64 0, .int .u8 0, .int .i64 0, .int .i64 0]) (cap := cap) (buf := buf) (closed := false) (s := s) (r := r) (tm := false) (stepG_comm (cases := #[rcase c (.agg #[.int .i64 0, .int .u8 0, .int .i64 0, .int .i64 0])]) (blocking := false) (shape := .select) (w' := (w.alloc (.cells #[.int .i64 0, .int .u8 0, .int .i64 0, .int .i64 0] 23))) rfl rfl (by decide) (by simp [go_sem, execOp, rcase, Act.eval])) ((heap_alloc_old w _ (ch_lt hc)).trans hc) hsome) ?_
  rw [Frame.finish_at, hx]
  walk_nrm
  refine LoneTo.goes (n := 40) ?_
  s_op
  s_op
  s_c stepG_region_end
  s_c stepG_block
  s_cond true
  s_c stepG_seq
  s_reg
  s_op
  refine at_world (fun X => Blk X w.heap.size #[.int .i64 0, .int .u8 0, .int .i64 0, .int .i64 0] ∧ Below w.heap.size (w.setChan c cap (buf.extract 1 buf.size) false s (r + 1) false) X) ⟨blk_set_chan w c cap _ _ _ _ _ _ (ch_lt hc), alloc_set w _ (ch_lt hc) _ _ _ _ _ _⟩ ?_
  rintro X ⟨hB, hX⟩
  have HB := Lib.hid hB
  have HX := Lib.hid hX
  obtain ⟨y0, k0, j0⟩ := (show Blk _ _ _ from hB)
  clear hB hX
  s_op
  s_op
  s_c stepG_region_end
  s_c stepG_seq
  s_reg
  s_op
  s_op
  s_op
  s_c stepG_region_end
  s_c stepG_ret'
  s_stop
  refine at_world (fun Y => Blk Y w.heap.size x.cells ∧ Below w.heap.size (w.setChan c cap (buf.extract 1 buf.size) false s (r + 1) false) Y) ⟨?_, ?_⟩ ?_
  · exact (((((HB.out.set_ 0 (by simp) _).set_ 1 (by simp) _).set_ 2 (by simp) _).set_ 3 (by simp) _).alloc _ : Blk _ w.heap.size x.cells)
  · have hz : w.heap.size ≤ X.heap.size := by have := HX.out.size; simpa [World.setChan] using this
    exact ((((HX.out.setCell (p := ⟨w.heap.size, 0, none⟩) (Nat.le_refl _) _).setCell (p := ⟨w.heap.size, 1, none⟩) (Nat.le_refl _) _).setCell (p := ⟨w.heap.size, 2, none⟩) (Nat.le_refl _) _).setCell (p := ⟨w.heap.size, 3, none⟩) (Nat.le_refl _) _).alloc (by simp only [World.size_setCell]; exact hz) _
  rintro Y ⟨⟨_, h, _⟩, hY⟩
  have x0 := h 0
  have x1 := h 1
  have x2 := h 2
  have x3 := h 3
  simp only [Evt.cells] at x0 x1 x2 x3
  refine LoneTo.done ⟨.returned (.tuple #[ev x, .bool true]), _, rfl, ⟨rfl, hY⟩, rfl, rfl, rfl, rfl, _, Try.func16, by simp [results, Try.f16, Frame.at, go_sem, x0, x1, x2, x3]⟩

set_option maxRecDepth 100000 in
set_option maxHeartbeats 2000000 in
theorem take_none (w : World) (c cap s r : Nat) (hc : Ch w c cap #[] s r) :
    Calls Try.prog 16 #[.chan (some c)] w fun e w' => e = .returned (.tuple #[ev ⟨0, 0, 0, 0⟩, .bool false]) ∧ Below w.heap.size w w' := by
  refine calls_of_loneTo (fun cs => ?_) (by rintro _ ⟨h, _⟩; cases h)
  have e : Frame.enter Try.prog 16 #[.chan (some c)] .normal = (base 16).at ⟨#[.chan (some c), undef, undef, undef, undef, undef, undef, undef, undef, undef, undef, undef], []⟩ [.code (Try.f16.body.getD .skip)] := by
    simp [Frame.enter, Frame.at, Try.func16, base, Try.f16]
  rw [e]
  refine LoneTo.goes (n := 40) ?_
  simp only [Try.f16, Option.getD_some]
  s_c stepG_seq
  s_reg
  s_op
  s_op
  s_c stepG_region_end
  s_c stepG_seq
  s_reg
  s_op
  s_c stepG_region_end
  s_c stepG_seq
  s_reg
  s_stop
  refine LoneTo.step (step_lone_select_default (c := c) (z := .agg #[.int .i64 0, .int .u8 0, .int .i64 0, .int .i64 0]) (cap := cap) (s := s) (r := r) (tm := false) (stepG_comm (cases := #[rcase c (.agg #[.int .i64 0, .int .u8 0, .int .i64 0, .int .i64 0])]) (blocking := false) (shape := .select) (w' := (w.alloc (.cells #[.int .i64 0, .int .u8 0, .int .i64 0, .int .i64 0] 23))) rfl rfl (by decide) (by simp [go_sem, execOp, rcase, Act.eval])) ((heap_alloc_old w _ (ch_lt hc)).trans hc)) ?_
  rw [Frame.finish_at]
  walk_nrm
  refine LoneTo.goes (n := 40) ?_
  s_op
  s_op
  s_c stepG_region_end
  s_c stepG_block
  s_cond false
  s_c stepG_seq
  s_reg
  s_op
  s_op
  s_op
  s_c stepG_region_end
  s_c stepG_ret'
  s_stop
  refine at_world (fun Y => Blk Y w.heap.size #[.int .i64 0, .int .u8 0, .int .i64 0, .int .i64 0] ∧ Below w.heap.size w Y) ⟨blk_new _ _ _, (Below.refl _ _).alloc (Nat.le_refl _) _⟩ ?_
  rintro Y ⟨⟨_, h, _⟩, hY⟩
  have x0 := h 0
  have x1 := h 1
  have x2 := h 2
  have x3 := h 3
  refine LoneTo.done ⟨.returned (.tuple #[ev ⟨0, 0, 0, 0⟩, .bool false]), _, rfl, ⟨rfl, hY⟩, rfl, rfl, rfl, rfl, _, Try.func16, by simp [results, Try.f16, Frame.at, go_sem, x0, x1, x2, x3]⟩
end Go.Proofs.Ytcoffbgpdbhjfaa
