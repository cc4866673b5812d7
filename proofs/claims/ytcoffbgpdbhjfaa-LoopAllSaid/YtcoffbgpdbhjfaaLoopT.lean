/- loop: the document's Put, done. -/
import Derived.Test.YtcoffbgpdbhjfaaLoopS
import Derived.Test.YtcoffbgpdbhjfaaStepN
import Derived.Deep.RegionLaw
namespace Go.Proofs.Ytcoffbgpdbhjfaa
open Go.Conc Go.RowKit
set_option linter.unusedVariables false
set_option linter.unusedSimpArgs false

theorem own_chg' {T : Nat → Prop} {w w' : World} {base n size : Nat} {e : TypeId} {v : Value} {xs : List Value} (h : w.ownsRow base e size v n xs) (k : Chg T w w') (hT : ∀ g, v.ownBlock = some g → ¬ T g) : w'.ownsRow base e size v n xs := by
  refine ⟨h.1, ?_⟩
  rcases h.2 with h0 | ⟨g, cap, cur, hv, hb, hh, hr⟩
  · exact .inl h0
  · refine .inr ⟨g, cap, cur, hv, hb, ?_, hr⟩
    have hlt := (h.lt g (by rw [hv]; rfl)).2
    rw [k.block g hlt (hT g (by rw [hv]; rfl))]
    exact hh

theorem rb_push {w0 w' : World} {B0 rb room n c : Nat} {A : Option Addr} {L : List Evt} {x : Evt} {A' : Option Addr} {c' : Nat} (h : Rb w0 B0 rb room A n c L) (hp : Pushed w0 w' B0 23 4 (.slice A n c) (n + 1) (flat L ++ x.cells.toList) A' c') :
    Rb (w'.setCell ⟨rb, 1, none⟩ (.slice A' (n + 1) c')) B0 rb room A' (n + 1) c' (L ++ [x]) ∧ Chg (Rt rb A n c) w0 (w'.setCell ⟨rb, 1, none⟩ (.slice A' (n + 1) c')) ∧ ∀ g, (Value.slice A' (n + 1) c').ownBlock = some g → (Value.slice A n c).ownBlock = some g ∨ w0.heap.size ≤ g := by
  have hne : (Value.slice A' (n + 1) c').ownBlock ≠ some rb := by
    intro e
    rcases hp.at_ with h1 | ⟨k, h1, h2⟩
    · exact h.ne (h1.symm.trans e)
    · rw [h1] at e; injection e with e; have := h.blk.1; omega
  have hg : Chg (fun g => (Value.slice A n c).ownBlock = some g) w0 w' := (Chg.of_grown hp.grown).mono fun k _ hk => hk.symm
  have hb := h.blk.chg hg h.ne
  refine ⟨⟨hb.set_ 1 (by simp) _, ?_, by rw [List.length_append, h.len]; rfl, hne⟩, (hg.mono fun k _ hk => .inr hk).setCell rb 1 (.inl rfl) _, fun g hg => ?_⟩
  · rw [flat_push]
    exact own_chg' hp.own ((Chg.refl (fun g => g = rb) w').setCell rb 1 rfl _) (fun g hg e => hne (by rw [hg, e]))
  · rcases hp.at_ with h1 | ⟨k, h1, h2⟩
    · exact .inl (h1 ▸ hg)
    · rw [h1] at hg; injection hg with hg; exact .inr (by omega)

set_option maxHeartbeats 4000000 in
set_option maxRecDepth 100000 in
theorem refput_1 {w : World} {B0 rb room n c : Nat} {A : Option Addr} {L : List Evt} (h : Rb w B0 rb room A n c L) (hn : n ≤ 1000000) (hB : B0 ≤ w.heap.size) (x : Evt) (hx : x.kind = 1) (hf : (ofK 1 L).length < room) :
    Calls Try.prog 13 #[ptr rb, ev x] w fun e w' => e = .returned (.bool true) ∧ Rs w B0 rb room A n c (L ++ [pure_ x]) w' := by
  have ep : pure_ x = ⟨1, x.byte, 0, 0⟩ := by simp [pure_, hx]
  rw [ep]
  clear ep
  obtain ⟨k, b, r, c'⟩ := x
  simp only at hx
  subst hx
  have d3 : decide ((room : Int) ≤ ((ofK 1 L).length : Int)) = false := by simp; omega
  have H := Lib.hid h
  clear h
  go_enter Try.func13, Try.ntmps13
  go_wp2
  refine at_world (fun X => (Blk X w.heap.size #[.int .i64 1, .int .u8 b, .int .i64 r, .int .i64 c'] ∧ Below w.heap.size w X) ∧ Rb X B0 rb room A n c L) ⟨⟨blk_new _ _ _, (Below.refl _ _).alloc (Nat.le_refl _) _⟩, H.out.later ((Below.refl _ _).alloc (Nat.le_refl _) _)⟩ ?_
  rintro X HX
  have H1 := Lib.hid HX
  obtain ⟨y1, k1, j1⟩ := (show Blk _ _ _ from HX.1.1)
  obtain ⟨y0, k0, j0⟩ := (show Blk _ _ _ from HX.2.blk)
  have HS : Hid (∀ m, Calls Try.prog 19 #[ptr rb, .int .i64 1] (X.drewN m) fun e w'' => e = .returned (.int .i64 ((ofK 1 L).length : Int)) ∧ ∃ m, w'' = X.drewN m) := Lib.hid (fun m => quiet_here (count_any (HX.2.later (below_drewN (Below.refl _ _) m)) 1 hn))
  clear HX
  go_quiet ((go_at_call 19; exact (HS.out _)))
  refine at_world (fun Y => (Blk Y w.heap.size #[.int .i64 1, .int .u8 b, .int .i64 r, .int .i64 c'] ∧ Below w.heap.size w Y) ∧ Rb Y B0 rb room A n c L) ⟨⟨H1.out.1.1.drewN _, below_drewN H1.out.1.2 _⟩, H1.out.2.later (below_drewN (Below.refl _ _) _)⟩ ?_
  rintro Y HX
  have H2 := Lib.hid HX
  clear y1 k1 j1 y0 k0 j0 HS H1
  obtain ⟨y1, k1, j1⟩ := (show Blk _ _ _ from HX.1.1)
  clear HX
  go_wp2
  refine at_world (fun Z => (Blk Z Y.heap.size #[.int .i64 1, .int .u8 b, .int .i64 0, .int .i64 0] ∧ Below w.heap.size w Z) ∧ Rb Z B0 rb room A n c L) ⟨⟨blk_new _ _ _, H2.out.1.2.alloc H2.out.1.2.size _⟩, H2.out.2.later ((Below.refl _ _).alloc (Nat.le_refl _) _)⟩ ?_
  rintro Z HX
  have H3 := Lib.hid HX
  clear y1 k1 j1
  obtain ⟨y1, k1, j1⟩ := (show Blk _ _ _ from HX.1.1)
  obtain ⟨y0, k0, j0⟩ := (show Blk _ _ _ from HX.2.blk)
  clear HX
  have hA1 : n + 1 ≤ maxLen := by unfold maxLen; omega
  have hA2 : (n + 1) * 32 ≤ 140737488355328 := by omega
  have s1 : Z.cell? ⟨rb, 1, none⟩ = some (.slice A n c) := k0 1
  go_region_law ((refine step_pushN (cs := #[.int .i64 1, .int .u8 b, .int .i64 0, .int .i64 0]) eltE H3.out.2.own (Nat.le_trans hB H3.out.1.2.size) (by rfl) (by rfl) (by rfl) (by rfl) (by rfl) (by rfl) (by rfl) (by rfl) hA1 hA2 ?_; intro A3 c3 w3 hp; have HP := Lib.hid (rb_push (x := ⟨1, b, 0, 0⟩) H3.out.2 hp); have hb3 := H3.out.2.blk.grown hp.grown (fun e => H3.out.2.ne e.symm); have u1 : w3.cell? ⟨rb, 1, none⟩ = some (.slice A n c) := hb3.2.1 1; have f1 : w3.frozen? ⟨rb, 1, none⟩ = false := hb3.2.2 1; clear hp hb3))
  all_goals go_wp2
  all_goals go_ret
  all_goals refine ⟨rfl, A3, n + 1, c3, HP.out.1, ((chg_below H3.out.1.2).mono (T := Rt rb A n c) fun _ _ h => h.elim).trans HP.out.2.1, fun g hg => (HP.out.2.2 g hg).imp id (Nat.le_trans H3.out.1.2.size)⟩

set_option maxHeartbeats 4000000 in
set_option maxRecDepth 100000 in
theorem refput_2 {w : World} {B0 rb room n c : Nat} {A : Option Addr} {L : List Evt} (h : Rb w B0 rb room A n c L) (hn : n ≤ 1000000) (hB : B0 ≤ w.heap.size) (x : Evt) (hx : x.kind = 2) (hf : (ofK 2 L).length < room) :
    Calls Try.prog 13 #[ptr rb, ev x] w fun e w' => e = .returned (.bool true) ∧ Rs w B0 rb room A n c (L ++ [pure_ x]) w' := by
  have ep : pure_ x = ⟨2, 0, 0, 0⟩ := by simp [pure_, hx]
  rw [ep]
  clear ep
  obtain ⟨k, b, r, c'⟩ := x
  simp only at hx
  subst hx
  have d3 : decide ((room : Int) ≤ ((ofK 2 L).length : Int)) = false := by simp; omega
  have H := Lib.hid h
  clear h
  go_enter Try.func13, Try.ntmps13
  go_wp2
  refine at_world (fun X => (Blk X w.heap.size #[.int .i64 2, .int .u8 b, .int .i64 r, .int .i64 c'] ∧ Below w.heap.size w X) ∧ Rb X B0 rb room A n c L) ⟨⟨blk_new _ _ _, (Below.refl _ _).alloc (Nat.le_refl _) _⟩, H.out.later ((Below.refl _ _).alloc (Nat.le_refl _) _)⟩ ?_
  rintro X HX
  have H1 := Lib.hid HX
  obtain ⟨y1, k1, j1⟩ := (show Blk _ _ _ from HX.1.1)
  obtain ⟨y0, k0, j0⟩ := (show Blk _ _ _ from HX.2.blk)
  have HS : Hid (∀ m, Calls Try.prog 19 #[ptr rb, .int .i64 2] (X.drewN m) fun e w'' => e = .returned (.int .i64 ((ofK 2 L).length : Int)) ∧ ∃ m, w'' = X.drewN m) := Lib.hid (fun m => quiet_here (count_any (HX.2.later (below_drewN (Below.refl _ _) m)) 2 hn))
  clear HX
  go_quiet ((go_at_call 19; exact (HS.out _)))
  refine at_world (fun Y => (Blk Y w.heap.size #[.int .i64 2, .int .u8 b, .int .i64 r, .int .i64 c'] ∧ Below w.heap.size w Y) ∧ Rb Y B0 rb room A n c L) ⟨⟨H1.out.1.1.drewN _, below_drewN H1.out.1.2 _⟩, H1.out.2.later (below_drewN (Below.refl _ _) _)⟩ ?_
  rintro Y HX
  have H2 := Lib.hid HX
  clear y1 k1 j1 y0 k0 j0 HS H1
  obtain ⟨y1, k1, j1⟩ := (show Blk _ _ _ from HX.1.1)
  clear HX
  go_wp2
  refine at_world (fun Z => (Blk Z Y.heap.size #[.int .i64 2, .int .u8 0, .int .i64 0, .int .i64 0] ∧ Below w.heap.size w Z) ∧ Rb Z B0 rb room A n c L) ⟨⟨blk_new _ _ _, H2.out.1.2.alloc H2.out.1.2.size _⟩, H2.out.2.later ((Below.refl _ _).alloc (Nat.le_refl _) _)⟩ ?_
  rintro Z HX
  have H3 := Lib.hid HX
  clear y1 k1 j1
  obtain ⟨y1, k1, j1⟩ := (show Blk _ _ _ from HX.1.1)
  obtain ⟨y0, k0, j0⟩ := (show Blk _ _ _ from HX.2.blk)
  clear HX
  have hA1 : n + 1 ≤ maxLen := by unfold maxLen; omega
  have hA2 : (n + 1) * 32 ≤ 140737488355328 := by omega
  have s1 : Z.cell? ⟨rb, 1, none⟩ = some (.slice A n c) := k0 1
  go_region_law ((refine step_pushN (cs := #[.int .i64 2, .int .u8 0, .int .i64 0, .int .i64 0]) eltE H3.out.2.own (Nat.le_trans hB H3.out.1.2.size) (by rfl) (by rfl) (by rfl) (by rfl) (by rfl) (by rfl) (by rfl) (by rfl) hA1 hA2 ?_; intro A3 c3 w3 hp; have HP := Lib.hid (rb_push (x := ⟨2, 0, 0, 0⟩) H3.out.2 hp); have hb3 := H3.out.2.blk.grown hp.grown (fun e => H3.out.2.ne e.symm); have u1 : w3.cell? ⟨rb, 1, none⟩ = some (.slice A n c) := hb3.2.1 1; have f1 : w3.frozen? ⟨rb, 1, none⟩ = false := hb3.2.2 1; clear hp hb3))
  all_goals go_wp2
  all_goals go_ret
  all_goals refine ⟨rfl, A3, n + 1, c3, HP.out.1, ((chg_below H3.out.1.2).mono (T := Rt rb A n c) fun _ _ h => h.elim).trans HP.out.2.1, fun g hg => (HP.out.2.2 g hg).imp id (Nat.le_trans H3.out.1.2.size)⟩

set_option maxHeartbeats 4000000 in
set_option maxRecDepth 100000 in
theorem refput_3 {w : World} {B0 rb room n c : Nat} {A : Option Addr} {L : List Evt} (h : Rb w B0 rb room A n c L) (hn : n ≤ 1000000) (hB : B0 ≤ w.heap.size) (x : Evt) (hx : x.kind = 3) (hf : (ofK 3 L).length < room) :
    Calls Try.prog 13 #[ptr rb, ev x] w fun e w' => e = .returned (.bool true) ∧ Rs w B0 rb room A n c (L ++ [pure_ x]) w' := by
  have ep : pure_ x = ⟨3, 0, x.rows, x.cols⟩ := by simp [pure_, hx]
  rw [ep]
  clear ep
  obtain ⟨k, b, r, c'⟩ := x
  simp only at hx
  subst hx
  have d3 : decide ((room : Int) ≤ ((ofK 3 L).length : Int)) = false := by simp; omega
  have H := Lib.hid h
  clear h
  go_enter Try.func13, Try.ntmps13
  go_wp2
  refine at_world (fun X => (Blk X w.heap.size #[.int .i64 3, .int .u8 b, .int .i64 r, .int .i64 c'] ∧ Below w.heap.size w X) ∧ Rb X B0 rb room A n c L) ⟨⟨blk_new _ _ _, (Below.refl _ _).alloc (Nat.le_refl _) _⟩, H.out.later ((Below.refl _ _).alloc (Nat.le_refl _) _)⟩ ?_
  rintro X HX
  have H1 := Lib.hid HX
  obtain ⟨y1, k1, j1⟩ := (show Blk _ _ _ from HX.1.1)
  obtain ⟨y0, k0, j0⟩ := (show Blk _ _ _ from HX.2.blk)
  have HS : Hid (∀ m, Calls Try.prog 19 #[ptr rb, .int .i64 3] (X.drewN m) fun e w'' => e = .returned (.int .i64 ((ofK 3 L).length : Int)) ∧ ∃ m, w'' = X.drewN m) := Lib.hid (fun m => quiet_here (count_any (HX.2.later (below_drewN (Below.refl _ _) m)) 3 hn))
  clear HX
  go_quiet ((go_at_call 19; exact (HS.out _)))
  refine at_world (fun Y => (Blk Y w.heap.size #[.int .i64 3, .int .u8 b, .int .i64 r, .int .i64 c'] ∧ Below w.heap.size w Y) ∧ Rb Y B0 rb room A n c L) ⟨⟨H1.out.1.1.drewN _, below_drewN H1.out.1.2 _⟩, H1.out.2.later (below_drewN (Below.refl _ _) _)⟩ ?_
  rintro Y HX
  have H2 := Lib.hid HX
  clear y1 k1 j1 y0 k0 j0 HS H1
  obtain ⟨y1, k1, j1⟩ := (show Blk _ _ _ from HX.1.1)
  clear HX
  go_wp2
  refine at_world (fun Z => (Blk Z Y.heap.size #[.int .i64 3, .int .u8 0, .int .i64 r, .int .i64 c'] ∧ Below w.heap.size w Z) ∧ Rb Z B0 rb room A n c L) ⟨⟨blk_new _ _ _, H2.out.1.2.alloc H2.out.1.2.size _⟩, H2.out.2.later ((Below.refl _ _).alloc (Nat.le_refl _) _)⟩ ?_
  rintro Z HX
  have H3 := Lib.hid HX
  clear y1 k1 j1
  obtain ⟨y1, k1, j1⟩ := (show Blk _ _ _ from HX.1.1)
  obtain ⟨y0, k0, j0⟩ := (show Blk _ _ _ from HX.2.blk)
  clear HX
  have hA1 : n + 1 ≤ maxLen := by unfold maxLen; omega
  have hA2 : (n + 1) * 32 ≤ 140737488355328 := by omega
  have s1 : Z.cell? ⟨rb, 1, none⟩ = some (.slice A n c) := k0 1
  go_region_law ((refine step_pushN (cs := #[.int .i64 3, .int .u8 0, .int .i64 r, .int .i64 c']) eltE H3.out.2.own (Nat.le_trans hB H3.out.1.2.size) (by rfl) (by rfl) (by rfl) (by rfl) (by rfl) (by rfl) (by rfl) (by rfl) hA1 hA2 ?_; intro A3 c3 w3 hp; have HP := Lib.hid (rb_push (x := ⟨3, 0, r, c'⟩) H3.out.2 hp); have hb3 := H3.out.2.blk.grown hp.grown (fun e => H3.out.2.ne e.symm); have u1 : w3.cell? ⟨rb, 1, none⟩ = some (.slice A n c) := hb3.2.1 1; have f1 : w3.frozen? ⟨rb, 1, none⟩ = false := hb3.2.2 1; clear hp hb3))
  all_goals go_wp2
  all_goals go_ret
  all_goals refine ⟨rfl, A3, n + 1, c3, HP.out.1, ((chg_below H3.out.1.2).mono (T := Rt rb A n c) fun _ _ h => h.elim).trans HP.out.2.1, fun g hg => (HP.out.2.2 g hg).imp id (Nat.le_trans H3.out.1.2.size)⟩
end Go.Proofs.Ytcoffbgpdbhjfaa
