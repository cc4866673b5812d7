/- keys: decode. -/
import Derived.Test.YtkkenabckhmkoaaKyB
namespace Go.Proofs.Ytkkenabckhmkoaa
open Go.RowKit
set_option linter.unusedVariables false
set_option linter.unusedSimpArgs false
set_option maxRecDepth 100000

theorem wpOp_some {P : Program} {ops : Array Oper} {Q : Exit → Act → World → Prop} {K : Act → World → Prop} {i : Nat} {o : Oper} {a : Act} {w : World} (hi : ops[i]? = some o) (hw : Region.wanted o (yielded ops a.tmps) = true) (h : ∀ J : Act → World → Prop, (∀ a w, K a w → J a w) → o.wp P a w J Q) : wpOp P ops Q i K a w := by
  unfold wpOp
  simp only [hi, hw, if_true]
  exact .inl (h K fun _ _ h => h)
abbrev put9 (X : World) (g : Nat) (a0 a1 a2 a3 a4 a5 a6 a7 a8 : Value) : World := ((((((((X.setCell ⟨g, 0, none⟩ a0).setCell ⟨g, 1, none⟩ a1).setCell ⟨g, 2, none⟩ a2).setCell ⟨g, 3, none⟩ a3).setCell ⟨g, 4, none⟩ a4).setCell ⟨g, 5, none⟩ a5).setCell ⟨g, 6, none⟩ a6).setCell ⟨g, 7, none⟩ a7).setCell ⟨g, 8, none⟩ a8
theorem put9_far {X : World} {g g' : Nat} {cs : Array Value} (h : Blk X g' cs) (hne : g ≠ g') (a0 a1 a2 a3 a4 a5 a6 a7 a8 : Value) : Blk (put9 X g a0 a1 a2 a3 a4 a5 a6 a7 a8) g' cs :=
  ((((((((h.far (p := ⟨g, 0, none⟩) hne _).far (p := ⟨g, 1, none⟩) hne _).far (p := ⟨g, 2, none⟩) hne _).far (p := ⟨g, 3, none⟩) hne _).far (p := ⟨g, 4, none⟩) hne _).far (p := ⟨g, 5, none⟩) hne _).far (p := ⟨g, 6, none⟩) hne _).far (p := ⟨g, 7, none⟩) hne _).far (p := ⟨g, 8, none⟩) hne _
theorem put9_blk {X : World} {g : Nat} {b0 b1 b2 b3 b4 b5 b6 b7 b8 : Value} (h : Blk X g #[b0, b1, b2, b3, b4, b5, b6, b7, b8]) (a0 a1 a2 a3 a4 a5 a6 a7 a8 : Value) : Blk (put9 X g a0 a1 a2 a3 a4 a5 a6 a7 a8) g #[a0, a1, a2, a3, a4, a5, a6, a7, a8] := by
  have := ((((((((h.set_ 0 (by simp) a0).set_ 1 (by simp) a1).set_ 2 (by simp) a2).set_ 3 (by simp) a3).set_ 4 (by simp) a4).set_ 5 (by simp) a5).set_ 6 (by simp) a6).set_ 7 (by simp) a7).set_ 8 (by simp) a8
  simpa using this
theorem put9_below {W X : World} {g : Nat} (h : Below W.heap.size W X) (hg : W.heap.size ≤ g) (a0 a1 a2 a3 a4 a5 a6 a7 a8 : Value) : Below W.heap.size W (put9 X g a0 a1 a2 a3 a4 a5 a6 a7 a8) :=
  ((((((((h.setCell (p := ⟨g, 0, none⟩) hg _).setCell (p := ⟨g, 1, none⟩) hg _).setCell (p := ⟨g, 2, none⟩) hg _).setCell (p := ⟨g, 3, none⟩) hg _).setCell (p := ⟨g, 4, none⟩) hg _).setCell (p := ⟨g, 5, none⟩) hg _).setCell (p := ⟨g, 6, none⟩) hg _).setCell (p := ⟨g, 7, none⟩) hg _).setCell (p := ⟨g, 8, none⟩) hg _
theorem put9_sl {X : World} {g : Nat} {S : Nat → Prop} {α : Type} {k : Nat} {enc : α → List Value} {v : Value} {L : List α} (h : LiV k enc X S v L) (hS : ¬ S g) (a0 a1 a2 a3 a4 a5 a6 a7 a8 : Value) : LiV k enc (put9 X g a0 a1 a2 a3 a4 a5 a6 a7 a8) S v L :=
  ((((((((h.far (p := ⟨g, 0, none⟩) hS _).far (p := ⟨g, 1, none⟩) hS _).far (p := ⟨g, 2, none⟩) hS _).far (p := ⟨g, 3, none⟩) hS _).far (p := ⟨g, 4, none⟩) hS _).far (p := ⟨g, 5, none⟩) hS _).far (p := ⟨g, 6, none⟩) hS _).far (p := ⟨g, 7, none⟩) hS _).far (p := ⟨g, 8, none⟩) hS _
abbrev zeroC : Array Value := #[.int .i64 0, .int .u8 0, .int .u8 0, .int .u8 0, .int .i64 0, .bool false, .string ⟨#[]⟩, .pointer none, .int .i64 0]
/-- What a method keeps: the parser that came, its result. -/
structure Fm (w : World) (s : KS) (T : Option Addr) (X : World) : Prop where
  below : Below w.heap.size w X
  b : Blk X w.heap.size (psC s T)
  r : Blk X (w.heap.size + 1) zeroC
theorem Fm.later {w X Y : World} {s : KS} {T : Option Addr} (h : Fm w s T X) (hb : Below X.heap.size X Y) : Fm w s T Y := ⟨belowStep h.below hb, h.b.later hb h.b.1, h.r.later hb h.r.1⟩
theorem fm_start (w : World) (s : KS) (T : Option Addr) : Fm w s T ((w.alloc (.cells (psC s T) 28)).alloc (.cells zeroC 28)) := by
  refine ⟨belPush (belAlloc _ _) _, (blk_new w _ _).alloc _, ?_⟩
  have := blk_new (w.alloc (.cells (psC s T) 28)) zeroC 28
  simpa using this
/-- Bare keys: their row stands wherever it stands. -/
theorem kyO_far {X : World} {base n : Nat} {v : Value} {ks : List Ky} (h : KyO base X v n ks) (hb : Bare ks) {g : Nat} (hg : g < base) (a0 a1 a2 a3 a4 a5 a6 a7 a8 : Value) : KyO base (put9 X g a0 a1 a2 a3 a4 a5 a6 a7 a8) v n ks := by
  obtain ⟨hs, h1, h2⟩ := h
  refine ⟨hs, ?_, ?_⟩
  · exact ownsRow_setCell_below (ownsRow_setCell_below (ownsRow_setCell_below (ownsRow_setCell_below (ownsRow_setCell_below (ownsRow_setCell_below (ownsRow_setCell_below (ownsRow_setCell_below (ownsRow_setCell_below h1 (a := ⟨g, 0, none⟩) hg _) (a := ⟨g, 1, none⟩) hg _) (a := ⟨g, 2, none⟩) hg _) (a := ⟨g, 3, none⟩) hg _) (a := ⟨g, 4, none⟩) hg _) (a := ⟨g, 5, none⟩) hg _) (a := ⟨g, 6, none⟩) hg _) (a := ⟨g, 7, none⟩) hg _) (a := ⟨g, 8, none⟩) hg _
  · refine ⟨h2.1, fun j x hx => ?_⟩
    obtain ⟨y, k1, k2⟩ := h2.2 j x hx
    have hy := hb y (List.mem_of_getElem? k1)
    refine ⟨y, k1, k2.1, k2.2.1, k2.2.2.1, k2.2.2.2.1, ?_⟩
    rw [k2.2.2.2.1, hy]
    exact Rd.empty _ _ _
/-- The result has been stored. -/
def FinP (w : World) (s : KS) (T : Option Addr) (v : Value) (n : Nat) (ks : List Ky) (X : World) : Prop := Blk X (w.heap.size + 1) (psC s T) ∧ KyW X v ks ∧ n = ks.length ∧ Below w.heap.size w X ∧ Chain X T s.tx
theorem chain_none (X : World) : Chain X none [] := rfl

theorem kyO_low {X Y : World} {g n : Nat} {v : Value} {ks : List Ky} (h : KyO Y.heap.size X v n ks) (hg : g < Y.heap.size) : KyO (g + 1) X v n ks := by
  obtain ⟨hs, h1, h2⟩ := h
  exact ⟨hs, ownLow h1 (by omega), h2⟩
def SD (w : World) (g : Nat) (x y z n : Int) (s : KS) (T : Option Addr) (Z : World) : Prop := (Z.cell? ⟨g, 0, none⟩ = some (.int .u8 x) ∧ Z.cell? ⟨g, 1, none⟩ = some (.int .u8 y) ∧ Z.cell? ⟨g, 2, none⟩ = some (.int .u8 z) ∧ Z.cell? ⟨g, 3, none⟩ = some (.int .i64 n)) ∧ Z.cell? ⟨w.heap.size, 0, none⟩ = some (.int .i64 s.w) ∧ Z.cell? ⟨w.heap.size, 1, none⟩ = some (.int .u8 s.d.h0) ∧ Z.cell? ⟨w.heap.size, 2, none⟩ = some (.int .u8 s.d.h1) ∧ Z.cell? ⟨w.heap.size, 3, none⟩ = some (.int .u8 s.d.h2) ∧ Z.cell? ⟨w.heap.size, 4, none⟩ = some (.int .i64 s.d.n) ∧ Z.cell? ⟨w.heap.size, 5, none⟩ = some (.bool s.m) ∧ Z.cell? ⟨w.heap.size, 6, none⟩ = some (.string s.row) ∧ Z.cell? ⟨w.heap.size, 7, none⟩ = some (.pointer T) ∧ Z.cell? ⟨w.heap.size, 8, none⟩ = some (.int .i64 s.cl)
theorem kyC_S {w Y Z : World} {s : KS} {T : Option Addr} {g nl : Nat} {A : Option Addr} {x y z n : Int} {l : List Int} (h : Fm w s T Y ∧ Blk Y g #[.int .u8 x, .int .u8 y, .int .u8 z, .int .i64 n] ∧ Rd Y A nl (li l)) (hne : w.heap.size + 1 < g) (hZ : Below Y.heap.size Y Z) (a0 a1 a2 a3 a4 a5 a6 a7 a8 : Value) :
    SD w g x y z n s T (put9 Z (w.heap.size + 1) a0 a1 a2 a3 a4 a5 a6 a7 a8) := by
  have q := put9_far (h.2.1.later hZ h.2.1.1) (g := w.heap.size + 1) (by omega) a0 a1 a2 a3 a4 a5 a6 a7 a8
  have b := put9_far (h.1.later hZ).b (g := w.heap.size + 1) (by omega) a0 a1 a2 a3 a4 a5 a6 a7 a8
  exact ⟨⟨q.2.1 0, q.2.1 1, q.2.1 2, q.2.1 3⟩, b.2.1 0, b.2.1 1, b.2.1 2, b.2.1 3, b.2.1 4, b.2.1 5, b.2.1 6, b.2.1 7, b.2.1 8⟩

set_option maxHeartbeats 8000000 in
theorem decode_any' (s : KS) (T : Option Addr) (b : Int) (b0 : 0 ≤ b) (b1 : b ≤ 255) (hs : s.d.Ok) (w : World) :
    Calls Try.prog 38 #[psV s T, .int .u8 b] w (Tells (decodeK s.d s.m b) w) := by
  obtain ⟨sw, ⟨h0, h1, h2, dn⟩, sm, srow, stx, scl⟩ := s
  have V0 := Lib.hid (fm_start w ⟨sw, ⟨h0, h1, h2, dn⟩, sm, srow, stx, scl⟩ T)
  obtain ⟨⟨⟨x, y, z, n⟩, l⟩, hst⟩ : ∃ q, stepD ⟨h0, h1, h2, dn⟩ b = q := ⟨_, rfl⟩
  have CF := Lib.hid (fun X => feed_at h0 h1 h2 dn b x y z n l X (fun w => step_is h0 h1 h2 dn b hs b0 b1 hst w))
  have hll : l.length ≤ 2 := by have := stepD_len ⟨h0, h1, h2, dn⟩ b; rw [hst] at this; exact this
  have hD : decodeK ⟨h0, h1, h2, dn⟩ sm b = (⟨0, ⟨x, y, z, n⟩, sm && decide (l.length = 0), ⟨#[]⟩, [], 0⟩, charsK sm l) := by unfold decodeK; rw [hst]
  obtain ⟨bb, hbb⟩ : ∃ bb, decide (l.length = 0) = bb := ⟨_, rfl⟩
  rw [hbb] at hD
  have HBB := Lib.hid hbb
  rw [hD]
  clear hD hst hs hbb
  go_enter Try.func38, Try.ntmps38
  go_upto_region 1 with fail
  refine at_world (Fm w ⟨sw, ⟨h0, h1, h2, dn⟩, sm, srow, stx, scl⟩ T) V0.out ?_
  intro X hX
  have V1 := Lib.hid hX
  clear hX V0
  obtain ⟨y1, k1, j1⟩ := (show _ from V1.out.b)
  go_wp2_with fail
  refine (CF.out X).mono ?_
  rintro e w5 ⟨A5, c5, rfl, r5, b5⟩
  have V5 := Lib.hid (And.intro (V1.out.later b5) r5)
  clear b5 r5 CF V1 y1 k1 j1
  obtain ⟨nl, hnl⟩ : ∃ nl, l.length = nl := ⟨_, rfl⟩
  rw [hnl] at V5 hll ⊢
  have hq0 : decide (nl = 0) = bb := by rw [← hnl]; exact HBB.out
  have HN := Lib.hid hnl
  clear hnl
  go_upto_region 2 with fail
  refine at_world (fun Y => (Fm w ⟨sw, ⟨h0, h1, h2, dn⟩, sm, srow, stx, scl⟩ T Y ∧ Blk Y w5.heap.size #[.int .u8 x, .int .u8 y, .int .u8 z, .int .i64 n] ∧ Rd Y A5 nl (li l)) ∧ w.heap.size + 1 < w5.heap.size) ⟨⟨V5.out.1.later (belAlloc _ _), blk_new _ _ _, V5.out.2.later (belAlloc _ _)⟩, V5.out.1.r.1⟩ ?_
  obtain ⟨g, hg⟩ : ∃ g, w5.heap.size = g := ⟨_, rfl⟩
  rw [hg]
  clear hg
  intro Y hY
  have VY := Lib.hid hY
  clear hY V5
  have HS := Lib.hid (show ∀ Z, Below Y.heap.size Y Z → SD w g x y z n ⟨sw, ⟨h0, h1, h2, dn⟩, sm, srow, stx, scl⟩ T Z from fun Z hZ => by
    have h := VY.out.1.1.later hZ
    have q := VY.out.1.2.1.later hZ VY.out.1.2.1.1
    exact ⟨⟨q.2.1 0, q.2.1 1, q.2.1 2, q.2.1 3⟩, h.b.2.1 0, h.b.2.1 1, h.b.2.1 2, h.b.2.1 3, h.b.2.1 4, h.b.2.1 5, h.b.2.1 6, h.b.2.1 7, h.b.2.1 8⟩)
  have CC := Lib.hid (fun Z (hZ : Below Y.heap.size Y Z) => chars_any ⟨sw, ⟨h0, h1, h2, dn⟩, sm, srow, stx, scl⟩ T A5 nl c5 l Z (VY.out.1.2.2.later hZ) HN.out.symm (by omega))
  have qq : ((nl : Int) == 0) = bb := by
    rw [← hq0]
    by_cases h : nl = 0
    · subst h; rfl
    · rw [decide_eq_false h]; simpa using h
  clear hq0
  cases sm
  · refine wp_region_held (S := SD w g x y z n ⟨sw, ⟨h0, h1, h2, dn⟩, false, srow, stx, scl⟩ T) (by kernel_rfl) ?_
    change wpAnyH _ _ _ _ _ _ _ _ (World.drew _)
    refine wpAnyH_take (i := 0) (oi := { dst := some 15, op := Go.Op.load 25 (Go.Operand.tmp 6), type := 25, pos := "keys.go:73", after := #[], guard := none }) (v := ?_) rfl (by kernel_rfl) (by kernel_rfl) (by kernel_rfl) (fun _ _ _ h => h) (Or.inl ⟨by rfl, ?_⟩) (by exact HS.out _ (Below.refl _ _).drew) ?_
    rotate_left
    · intro Z hZ; obtain ⟨⟨z0, z1, z2, z3⟩, p0, p1, p2, p3, p4, p5, p6, p7, p8⟩ := hZ; dsimp only at p0 p1 p2 p3 p4 p5 p6 p7 p8; go_simp; try with_reducible rfl
    simp only [Act.put, List.setIfInBounds_toArray, List.set_cons_zero, List.set_cons_succ]
    refine wpAnyH_take (i := 1) (oi := { dst := some 16, op := Go.Op.fieldAddr 28 (Go.Operand.tmp 2) 2, type := 0, pos := "keys.go:73", after := #[], guard := none }) (v := ?_) rfl (by kernel_rfl) (by kernel_rfl) (by kernel_rfl) (fun _ _ _ h => h) (Or.inl ⟨by rfl, ?_⟩) (by exact HS.out _ (Below.refl _ _).drew) ?_
    rotate_left
    · intro Z hZ; clear hZ; go_simp; try with_reducible rfl
    simp only [Act.put, List.setIfInBounds_toArray, List.set_cons_zero, List.set_cons_succ]
    refine wpAnyH_take (i := 2) (oi := { dst := some 17, op := Go.Op.load 4 (Go.Operand.tmp 16), type := 4, pos := "keys.go:73", after := #[{ on := 1, ground := Go.Ground.data }], guard := none }) (v := ?_) rfl (by kernel_rfl) (by kernel_rfl) (by kernel_rfl) (fun _ _ _ h => h) (Or.inl ⟨by rfl, ?_⟩) (by exact HS.out _ (Below.refl _ _).drew) ?_
    rotate_left
    · intro Z hZ; obtain ⟨⟨z0, z1, z2, z3⟩, p0, p1, p2, p3, p4, p5, p6, p7, p8⟩ := hZ; dsimp only at p0 p1 p2 p3 p4 p5 p6 p7 p8; go_simp; try with_reducible rfl
    simp only [Act.put, List.setIfInBounds_toArray, List.set_cons_zero, List.set_cons_succ]
    refine wpAnyH_take (i := 3) (oi := { dst := some 18, op := Go.Op.move (Go.Operand.tmp 17), type := 4, pos := "keys.go:73", after := #[{ on := 2, ground := Go.Ground.data }], guard := none }) (v := ?_) rfl (by kernel_rfl) (by kernel_rfl) (by kernel_rfl) (fun _ _ _ h => h) (Or.inl ⟨by rfl, ?_⟩) (by exact HS.out _ (Below.refl _ _).drew) ?_
    rotate_left
    · intro Z hZ; clear hZ; go_simp; try with_reducible rfl
    simp only [Act.put, List.setIfInBounds_toArray, List.set_cons_zero, List.set_cons_succ]
    refine wpAnyH_take (i := 4) (oi := { dst := some 19, op := Go.Op.move (Go.Operand.tmp 7), type := 42, pos := "keys.go:73", after := #[{ on := 3, ground := Go.Ground.guard }], guard := some (3, true) }) (v := undef) rfl (by kernel_rfl) (by kernel_rfl) (by kernel_rfl) (fun _ _ _ h => h) (Or.inr ⟨by rfl, rfl⟩) (by exact HS.out _ (Below.refl _ _).drew) ?_
    simp only [Act.put, List.setIfInBounds_toArray, List.set_cons_zero, List.set_cons_succ]
    refine wpAnyH_take (i := 5) (oi := { dst := some 20, op := Go.Op.call { callee := Go.Callee.builtin Go.Builtin.len, args := #[Go.Operand.tmp 19], argTypes := #[42] }, type := 3, pos := "keys.go:73", after := #[{ on := 4, ground := Go.Ground.data }, { on := 3, ground := Go.Ground.guard }], guard := some (3, true) }) (v := undef) rfl (by kernel_rfl) (by kernel_rfl) (by kernel_rfl) (fun _ _ _ h => h) (Or.inr ⟨by rfl, rfl⟩) (by exact HS.out _ (Below.refl _ _).drew) ?_
    simp only [Act.put, List.setIfInBounds_toArray, List.set_cons_zero, List.set_cons_succ]
    refine wpAnyH_take (i := 6) (oi := { dst := some 21, op := Go.Op.binOp Go.BinOp.eql 3 (Go.Operand.tmp 20) (Go.Operand.const (Go.Value.int Go.IntKind.i64 0)) 3, type := 4, pos := "keys.go:73", after := #[{ on := 5, ground := Go.Ground.data }, { on := 3, ground := Go.Ground.guard }], guard := some (3, true) }) (v := undef) rfl (by kernel_rfl) (by kernel_rfl) (by kernel_rfl) (fun _ _ _ h => h) (Or.inr ⟨by rfl, rfl⟩) (by exact HS.out _ (Below.refl _ _).drew) ?_
    simp only [Act.put, List.setIfInBounds_toArray, List.set_cons_zero, List.set_cons_succ]
    refine wpAnyH_take (i := 7) (oi := { dst := some 22, op := Go.Op.pick (Go.Operand.tmp 18) (Go.Operand.tmp 21) (Go.Operand.const (Go.Value.bool false)), type := 4, pos := "keys.go:73", after := #[{ on := 3, ground := Go.Ground.data }, { on := 6, ground := Go.Ground.data }], guard := none }) (v := ?_) rfl (by kernel_rfl) (by kernel_rfl) (by kernel_rfl) (fun _ _ _ h => h) (Or.inl ⟨by rfl, ?_⟩) (by exact HS.out _ (Below.refl _ _).drew) ?_
    rotate_left
    · intro Z hZ; clear hZ; go_simp; try with_reducible rfl
    simp only [Act.put, List.setIfInBounds_toArray, List.set_cons_zero, List.set_cons_succ]
    refine wpAnyH_take (i := 8) (oi := { dst := some 23, op := Go.Op.build 28 #[(1, Go.Operand.tmp 15), (2, Go.Operand.tmp 22)], type := 28, pos := "keys.go:73", after := #[{ on := 0, ground := Go.Ground.data }, { on := 7, ground := Go.Ground.data }], guard := none }) (v := ?_) rfl (by kernel_rfl) (by kernel_rfl) (by kernel_rfl) (fun _ _ _ h => h) (Or.inl ⟨by rfl, ?_⟩) (by exact HS.out _ (Below.refl _ _).drew) ?_
    rotate_left
    · intro Z hZ; clear hZ; go_simp; try with_reducible rfl
    simp only [Act.put, List.setIfInBounds_toArray, List.set_cons_zero, List.set_cons_succ]
    refine wpAnyH_take (i := 9) (oi := { dst := some 24, op := Go.Op.load 28 (Go.Operand.tmp 2), type := 28, pos := "keys.go:73", after := #[], guard := none }) (v := ?_) rfl (by kernel_rfl) (by kernel_rfl) (by kernel_rfl) (fun _ _ _ h => h) (Or.inl ⟨by rfl, ?_⟩) (by exact HS.out _ (Below.refl _ _).drew) ?_
    rotate_left
    · intro Z hZ; obtain ⟨⟨z0, z1, z2, z3⟩, p0, p1, p2, p3, p4, p5, p6, p7, p8⟩ := hZ; dsimp only at p0 p1 p2 p3 p4 p5 p6 p7 p8; go_simp; try with_reducible rfl
    simp only [Act.put, List.setIfInBounds_toArray, List.set_cons_zero, List.set_cons_succ]
    refine wpAnyH_take (i := 10) (oi := { dst := some 25, op := Go.Op.move (Go.Operand.tmp 7), type := 42, pos := "keys.go:73", after := #[], guard := none }) (v := ?_) rfl (by kernel_rfl) (by kernel_rfl) (by kernel_rfl) (fun _ _ _ h => h) (Or.inl ⟨by rfl, ?_⟩) (by exact HS.out _ (Below.refl _ _).drew) ?_
    rotate_left
    · intro Z hZ; clear hZ; go_simp; try with_reducible rfl
    simp only [Act.put, List.setIfInBounds_toArray, List.set_cons_zero, List.set_cons_succ]
    refine wpAnyH_all (rs := [11]) (by kernel_rfl) (by simp) (List.forall_mem_cons.2 ⟨wpOp_some (o := { dst := some 26, op := Go.Op.call { callee := Go.Callee.value (Go.Operand.func 30), args := #[Go.Operand.tmp 24, Go.Operand.tmp 25], argTypes := #[28, 42] }, type := 32, pos := "keys.go:73", after := #[{ on := 9, ground := Go.Ground.data }, { on := 10, ground := Go.Ground.data }, { on := 3, ground := Go.Ground.chain }], guard := none }) rfl (by rfl) (fun J hJ => ?_), (by simp)⟩)
    go_simp; refine (CC.out _ ((Below.refl _ _).drew)).mono ?_; rintro e w6 ⟨A6, c6, rfl, k6, b6⟩; have B6 := Lib.hid ((Below.refl Y.heap.size Y).drew.trans b6); have K6 := Lib.hid (kyO_low k6 VY.out.1.1.r.1); obtain ⟨y6, r6, j6⟩ := (show _ from (VY.out.1.1.later B6.out).r); have q0 : w6.cell? ⟨w.heap.size + 1, 0, none⟩ = some (.int .i64 0) := r6 0; have q1 : w6.cell? ⟨w.heap.size + 1, 1, none⟩ = some (.int .u8 0) := r6 1; have q2 : w6.cell? ⟨w.heap.size + 1, 2, none⟩ = some (.int .u8 0) := r6 2; have q3 : w6.cell? ⟨w.heap.size + 1, 3, none⟩ = some (.int .u8 0) := r6 3; have q4 : w6.cell? ⟨w.heap.size + 1, 4, none⟩ = some (.int .i64 0) := r6 4; have q5 : w6.cell? ⟨w.heap.size + 1, 5, none⟩ = some (.bool false) := r6 5; have q6 : w6.cell? ⟨w.heap.size + 1, 6, none⟩ = some (.string ⟨#[]⟩) := r6 6; have q7 : w6.cell? ⟨w.heap.size + 1, 7, none⟩ = some (.pointer none) := r6 7; have q8 : w6.cell? ⟨w.heap.size + 1, 8, none⟩ = some (.int .i64 0) := r6 8; have f0 := j6 0; have f1 := j6 1; have f2 := j6 2; have f3 := j6 3; have f4 := j6 4; have f5 := j6 5; have f6 := j6 6; have f7 := j6 7; have f8 := j6 8; clear r6 j6; clear k6 b6; dsimp only; refine hJ _ _ ⟨by exact HS.out _ B6.out, ?_⟩; clear hJ J
    refine wpAnyH_all (rs := [12]) (by kernel_rfl) (by simp) (List.forall_mem_cons.2 ⟨wpOp_some (o := { dst := none, op := Go.Op.store 28 (Go.Operand.tmp 4) (Go.Operand.tmp 23), type := 0, pos := "keys.go:73", after := #[{ on := 8, ground := Go.Ground.data }, { on := 11, ground := Go.Ground.chain }, { on := 0, ground := Go.Ground.phase }, { on := 1, ground := Go.Ground.phase }, { on := 2, ground := Go.Ground.phase }, { on := 3, ground := Go.Ground.phase }, { on := 4, ground := Go.Ground.phase }, { on := 5, ground := Go.Ground.phase }, { on := 6, ground := Go.Ground.phase }, { on := 7, ground := Go.Ground.phase }, { on := 8, ground := Go.Ground.phase }, { on := 9, ground := Go.Ground.textOnly Go.Departure.lateStores }, { on := 10, ground := Go.Ground.textOnly Go.Departure.lateStores }, { on := 11, ground := Go.Ground.textOnly Go.Departure.lateStoresUnsure }], guard := none }) rfl (by rfl) (fun J hJ => ?_), (by simp)⟩)
    go_simp; refine hJ _ _ ⟨by exact kyC_S VY.out.1 VY.out.2 B6.out _ _ _ _ _ _ _ _ _, ?_⟩; clear hJ J
    refine wpAnyH_take (i := 13) (oi := { dst := some 5, op := Go.Op.assign (Go.Operand.tmp 26), type := 32, pos := "keys.go:73", after := #[{ on := 11, ground := Go.Ground.data }, { on := 12, ground := Go.Ground.chain }, { on := 0, ground := Go.Ground.phase }, { on := 1, ground := Go.Ground.phase }, { on := 2, ground := Go.Ground.phase }, { on := 3, ground := Go.Ground.phase }, { on := 4, ground := Go.Ground.phase }, { on := 5, ground := Go.Ground.phase }, { on := 6, ground := Go.Ground.phase }, { on := 7, ground := Go.Ground.phase }, { on := 8, ground := Go.Ground.phase }, { on := 9, ground := Go.Ground.phase }, { on := 10, ground := Go.Ground.phase }, { on := 11, ground := Go.Ground.phase }, { on := 12, ground := Go.Ground.phase }], guard := none }) (v := ?_) rfl (by kernel_rfl) (by kernel_rfl) (by kernel_rfl) (fun _ _ _ h => h) (Or.inl ⟨by rfl, ?_⟩) (by exact kyC_S VY.out.1 VY.out.2 B6.out _ _ _ _ _ _ _ _ _) ?_
    rotate_left
    · intro Z hZ; clear hZ; go_simp; try with_reducible rfl
    simp only [Act.put, List.setIfInBounds_toArray, List.set_cons_zero, List.set_cons_succ]
    refine wpAnyH_done (by kernel_rfl) ?_ _
    go_wp2_with fail
    have hnl0 := HN.out
    refine at_world (FinP w ⟨0, ⟨x, y, z, n⟩, false && bb, ⟨#[]⟩, [], 0⟩ none (.slice A6 nl c6) nl (charsK false l)) ⟨put9_blk (VY.out.1.1.later B6.out).r _ _ _ _ _ _ _ _ _, (kyW_own (kyO_far K6.out (charsK_bare _ _) (Nat.lt_succ_self _) _ _ _ _ _ _ _ _ _)).1, by rw [charsK_len]; exact hnl0.symm, put9_below (belowStep VY.out.1.1.below B6.out) (Nat.le_succ _) _ _ _ _ _ _ _ _ _, rfl⟩ ?_
    rintro Z ⟨⟨y9, k9, j9⟩, hk, hn, hb, hc⟩
    have HZ := Lib.hid (And.intro hc (And.intro hk (And.intro hn hb)))
    have e0 := k9 0
    have e1 := k9 1
    have e2 := k9 2
    have e3 := k9 3
    have e4 := k9 4
    have e5 := k9 5
    have e6 := k9 6
    have e7 := k9 7
    have e8 := k9 8
    clear hc hk hn hb k9 j9 y9 y6 hnl0 q0 q1 q2 q3 q4 q5 q6 q7 q8 f0 f1 f2 f3 f4 f5 f6 f7 f8
    refine bodyPost_ret (v := .tuple #[psV ⟨0, ⟨x, y, z, n⟩, false && bb, ⟨#[]⟩, [], 0⟩ none, .slice A6 nl c6]) (by simp at e0 e1 e2 e3 e4 e5 e6 e7 e8; simp [results, Try.results38, go_sem, e0, e1, e2, e3, e4, e5, e6, e7, e8]) rfl ⟨none, A6, nl, c6, rfl, HZ.out.1, HZ.out.2.1, HZ.out.2.2.1, HZ.out.2.2.2⟩
  · refine wp_region_held (S := SD w g x y z n ⟨sw, ⟨h0, h1, h2, dn⟩, true, srow, stx, scl⟩ T) (by kernel_rfl) ?_
    change wpAnyH _ _ _ _ _ _ _ _ (World.drew _)
    refine wpAnyH_take (i := 0) (oi := { dst := some 15, op := Go.Op.load 25 (Go.Operand.tmp 6), type := 25, pos := "keys.go:73", after := #[], guard := none }) (v := ?_) rfl (by kernel_rfl) (by kernel_rfl) (by kernel_rfl) (fun _ _ _ h => h) (Or.inl ⟨by rfl, ?_⟩) (by exact HS.out _ (Below.refl _ _).drew) ?_
    rotate_left
    · intro Z hZ; obtain ⟨⟨z0, z1, z2, z3⟩, p0, p1, p2, p3, p4, p5, p6, p7, p8⟩ := hZ; dsimp only at p0 p1 p2 p3 p4 p5 p6 p7 p8; go_simp; try with_reducible rfl
    simp only [Act.put, List.setIfInBounds_toArray, List.set_cons_zero, List.set_cons_succ]
    refine wpAnyH_take (i := 1) (oi := { dst := some 16, op := Go.Op.fieldAddr 28 (Go.Operand.tmp 2) 2, type := 0, pos := "keys.go:73", after := #[], guard := none }) (v := ?_) rfl (by kernel_rfl) (by kernel_rfl) (by kernel_rfl) (fun _ _ _ h => h) (Or.inl ⟨by rfl, ?_⟩) (by exact HS.out _ (Below.refl _ _).drew) ?_
    rotate_left
    · intro Z hZ; clear hZ; go_simp; try with_reducible rfl
    simp only [Act.put, List.setIfInBounds_toArray, List.set_cons_zero, List.set_cons_succ]
    refine wpAnyH_take (i := 2) (oi := { dst := some 17, op := Go.Op.load 4 (Go.Operand.tmp 16), type := 4, pos := "keys.go:73", after := #[{ on := 1, ground := Go.Ground.data }], guard := none }) (v := ?_) rfl (by kernel_rfl) (by kernel_rfl) (by kernel_rfl) (fun _ _ _ h => h) (Or.inl ⟨by rfl, ?_⟩) (by exact HS.out _ (Below.refl _ _).drew) ?_
    rotate_left
    · intro Z hZ; obtain ⟨⟨z0, z1, z2, z3⟩, p0, p1, p2, p3, p4, p5, p6, p7, p8⟩ := hZ; dsimp only at p0 p1 p2 p3 p4 p5 p6 p7 p8; go_simp; try with_reducible rfl
    simp only [Act.put, List.setIfInBounds_toArray, List.set_cons_zero, List.set_cons_succ]
    refine wpAnyH_take (i := 3) (oi := { dst := some 18, op := Go.Op.move (Go.Operand.tmp 17), type := 4, pos := "keys.go:73", after := #[{ on := 2, ground := Go.Ground.data }], guard := none }) (v := ?_) rfl (by kernel_rfl) (by kernel_rfl) (by kernel_rfl) (fun _ _ _ h => h) (Or.inl ⟨by rfl, ?_⟩) (by exact HS.out _ (Below.refl _ _).drew) ?_
    rotate_left
    · intro Z hZ; clear hZ; go_simp; try with_reducible rfl
    simp only [Act.put, List.setIfInBounds_toArray, List.set_cons_zero, List.set_cons_succ]
    refine wpAnyH_take (i := 4) (oi := { dst := some 19, op := Go.Op.move (Go.Operand.tmp 7), type := 42, pos := "keys.go:73", after := #[{ on := 3, ground := Go.Ground.guard }], guard := some (3, true) }) (v := ?_) rfl (by kernel_rfl) (by kernel_rfl) (by kernel_rfl) (fun _ _ _ h => h) (Or.inl ⟨by rfl, ?_⟩) (by exact HS.out _ (Below.refl _ _).drew) ?_
    rotate_left
    · intro Z hZ; clear hZ; go_simp; try with_reducible rfl
    simp only [Act.put, List.setIfInBounds_toArray, List.set_cons_zero, List.set_cons_succ]
    refine wpAnyH_take (i := 5) (oi := { dst := some 20, op := Go.Op.call { callee := Go.Callee.builtin Go.Builtin.len, args := #[Go.Operand.tmp 19], argTypes := #[42] }, type := 3, pos := "keys.go:73", after := #[{ on := 4, ground := Go.Ground.data }, { on := 3, ground := Go.Ground.guard }], guard := some (3, true) }) (v := ?_) rfl (by kernel_rfl) (by kernel_rfl) (by kernel_rfl) (fun _ _ _ h => h) (Or.inl ⟨by rfl, ?_⟩) (by exact HS.out _ (Below.refl _ _).drew) ?_
    rotate_left
    · intro Z hZ; clear hZ; go_simp; try with_reducible rfl
    simp only [Act.put, List.setIfInBounds_toArray, List.set_cons_zero, List.set_cons_succ]
    refine wpAnyH_take (i := 6) (oi := { dst := some 21, op := Go.Op.binOp Go.BinOp.eql 3 (Go.Operand.tmp 20) (Go.Operand.const (Go.Value.int Go.IntKind.i64 0)) 3, type := 4, pos := "keys.go:73", after := #[{ on := 5, ground := Go.Ground.data }, { on := 3, ground := Go.Ground.guard }], guard := some (3, true) }) (v := ?_) rfl (by kernel_rfl) (by kernel_rfl) (by kernel_rfl) (fun _ _ _ h => h) (Or.inl ⟨by rfl, ?_⟩) (by exact HS.out _ (Below.refl _ _).drew) ?_
    rotate_left
    · intro Z hZ; clear hZ; go_simp; try with_reducible rfl
    simp only [Act.put, List.setIfInBounds_toArray, List.set_cons_zero, List.set_cons_succ]
    refine wpAnyH_take (i := 7) (oi := { dst := some 22, op := Go.Op.pick (Go.Operand.tmp 18) (Go.Operand.tmp 21) (Go.Operand.const (Go.Value.bool false)), type := 4, pos := "keys.go:73", after := #[{ on := 3, ground := Go.Ground.data }, { on := 6, ground := Go.Ground.data }], guard := none }) (v := ?_) rfl (by kernel_rfl) (by kernel_rfl) (by kernel_rfl) (fun _ _ _ h => h) (Or.inl ⟨by rfl, ?_⟩) (by exact HS.out _ (Below.refl _ _).drew) ?_
    rotate_left
    · intro Z hZ; clear hZ; go_simp; try with_reducible rfl
    simp only [Act.put, List.setIfInBounds_toArray, List.set_cons_zero, List.set_cons_succ]
    refine wpAnyH_take (i := 8) (oi := { dst := some 23, op := Go.Op.build 28 #[(1, Go.Operand.tmp 15), (2, Go.Operand.tmp 22)], type := 28, pos := "keys.go:73", after := #[{ on := 0, ground := Go.Ground.data }, { on := 7, ground := Go.Ground.data }], guard := none }) (v := ?_) rfl (by kernel_rfl) (by kernel_rfl) (by kernel_rfl) (fun _ _ _ h => h) (Or.inl ⟨by rfl, ?_⟩) (by exact HS.out _ (Below.refl _ _).drew) ?_
    rotate_left
    · intro Z hZ; clear hZ; go_simp; try with_reducible rfl
    simp only [Act.put, List.setIfInBounds_toArray, List.set_cons_zero, List.set_cons_succ]
    refine wpAnyH_take (i := 9) (oi := { dst := some 24, op := Go.Op.load 28 (Go.Operand.tmp 2), type := 28, pos := "keys.go:73", after := #[], guard := none }) (v := ?_) rfl (by kernel_rfl) (by kernel_rfl) (by kernel_rfl) (fun _ _ _ h => h) (Or.inl ⟨by rfl, ?_⟩) (by exact HS.out _ (Below.refl _ _).drew) ?_
    rotate_left
    · intro Z hZ; obtain ⟨⟨z0, z1, z2, z3⟩, p0, p1, p2, p3, p4, p5, p6, p7, p8⟩ := hZ; dsimp only at p0 p1 p2 p3 p4 p5 p6 p7 p8; go_simp; try with_reducible rfl
    simp only [Act.put, List.setIfInBounds_toArray, List.set_cons_zero, List.set_cons_succ]
    refine wpAnyH_take (i := 10) (oi := { dst := some 25, op := Go.Op.move (Go.Operand.tmp 7), type := 42, pos := "keys.go:73", after := #[], guard := none }) (v := ?_) rfl (by kernel_rfl) (by kernel_rfl) (by kernel_rfl) (fun _ _ _ h => h) (Or.inl ⟨by rfl, ?_⟩) (by exact HS.out _ (Below.refl _ _).drew) ?_
    rotate_left
    · intro Z hZ; clear hZ; go_simp; try with_reducible rfl
    simp only [Act.put, List.setIfInBounds_toArray, List.set_cons_zero, List.set_cons_succ]
    refine wpAnyH_all (rs := [11]) (by kernel_rfl) (by simp) (List.forall_mem_cons.2 ⟨wpOp_some (o := { dst := some 26, op := Go.Op.call { callee := Go.Callee.value (Go.Operand.func 30), args := #[Go.Operand.tmp 24, Go.Operand.tmp 25], argTypes := #[28, 42] }, type := 32, pos := "keys.go:73", after := #[{ on := 9, ground := Go.Ground.data }, { on := 10, ground := Go.Ground.data }, { on := 3, ground := Go.Ground.chain }], guard := none }) rfl (by rfl) (fun J hJ => ?_), (by simp)⟩)
    go_simp; refine (CC.out _ ((Below.refl _ _).drew)).mono ?_; rintro e w6 ⟨A6, c6, rfl, k6, b6⟩; have B6 := Lib.hid ((Below.refl Y.heap.size Y).drew.trans b6); have K6 := Lib.hid (kyO_low k6 VY.out.1.1.r.1); obtain ⟨y6, r6, j6⟩ := (show _ from (VY.out.1.1.later B6.out).r); have q0 : w6.cell? ⟨w.heap.size + 1, 0, none⟩ = some (.int .i64 0) := r6 0; have q1 : w6.cell? ⟨w.heap.size + 1, 1, none⟩ = some (.int .u8 0) := r6 1; have q2 : w6.cell? ⟨w.heap.size + 1, 2, none⟩ = some (.int .u8 0) := r6 2; have q3 : w6.cell? ⟨w.heap.size + 1, 3, none⟩ = some (.int .u8 0) := r6 3; have q4 : w6.cell? ⟨w.heap.size + 1, 4, none⟩ = some (.int .i64 0) := r6 4; have q5 : w6.cell? ⟨w.heap.size + 1, 5, none⟩ = some (.bool false) := r6 5; have q6 : w6.cell? ⟨w.heap.size + 1, 6, none⟩ = some (.string ⟨#[]⟩) := r6 6; have q7 : w6.cell? ⟨w.heap.size + 1, 7, none⟩ = some (.pointer none) := r6 7; have q8 : w6.cell? ⟨w.heap.size + 1, 8, none⟩ = some (.int .i64 0) := r6 8; have f0 := j6 0; have f1 := j6 1; have f2 := j6 2; have f3 := j6 3; have f4 := j6 4; have f5 := j6 5; have f6 := j6 6; have f7 := j6 7; have f8 := j6 8; clear r6 j6; clear k6 b6; dsimp only; refine hJ _ _ ⟨by exact HS.out _ B6.out, ?_⟩; clear hJ J
    refine wpAnyH_all (rs := [12]) (by kernel_rfl) (by simp) (List.forall_mem_cons.2 ⟨wpOp_some (o := { dst := none, op := Go.Op.store 28 (Go.Operand.tmp 4) (Go.Operand.tmp 23), type := 0, pos := "keys.go:73", after := #[{ on := 8, ground := Go.Ground.data }, { on := 11, ground := Go.Ground.chain }, { on := 0, ground := Go.Ground.phase }, { on := 1, ground := Go.Ground.phase }, { on := 2, ground := Go.Ground.phase }, { on := 3, ground := Go.Ground.phase }, { on := 4, ground := Go.Ground.phase }, { on := 5, ground := Go.Ground.phase }, { on := 6, ground := Go.Ground.phase }, { on := 7, ground := Go.Ground.phase }, { on := 8, ground := Go.Ground.phase }, { on := 9, ground := Go.Ground.textOnly Go.Departure.lateStores }, { on := 10, ground := Go.Ground.textOnly Go.Departure.lateStores }, { on := 11, ground := Go.Ground.textOnly Go.Departure.lateStoresUnsure }], guard := none }) rfl (by rfl) (fun J hJ => ?_), (by simp)⟩)
    go_simp; refine hJ _ _ ⟨by exact kyC_S VY.out.1 VY.out.2 B6.out _ _ _ _ _ _ _ _ _, ?_⟩; clear hJ J
    refine wpAnyH_take (i := 13) (oi := { dst := some 5, op := Go.Op.assign (Go.Operand.tmp 26), type := 32, pos := "keys.go:73", after := #[{ on := 11, ground := Go.Ground.data }, { on := 12, ground := Go.Ground.chain }, { on := 0, ground := Go.Ground.phase }, { on := 1, ground := Go.Ground.phase }, { on := 2, ground := Go.Ground.phase }, { on := 3, ground := Go.Ground.phase }, { on := 4, ground := Go.Ground.phase }, { on := 5, ground := Go.Ground.phase }, { on := 6, ground := Go.Ground.phase }, { on := 7, ground := Go.Ground.phase }, { on := 8, ground := Go.Ground.phase }, { on := 9, ground := Go.Ground.phase }, { on := 10, ground := Go.Ground.phase }, { on := 11, ground := Go.Ground.phase }, { on := 12, ground := Go.Ground.phase }], guard := none }) (v := ?_) rfl (by kernel_rfl) (by kernel_rfl) (by kernel_rfl) (fun _ _ _ h => h) (Or.inl ⟨by rfl, ?_⟩) (by exact kyC_S VY.out.1 VY.out.2 B6.out _ _ _ _ _ _ _ _ _) ?_
    rotate_left
    · intro Z hZ; clear hZ; go_simp; try with_reducible rfl
    simp only [Act.put, List.setIfInBounds_toArray, List.set_cons_zero, List.set_cons_succ]
    refine wpAnyH_done (by kernel_rfl) ?_ _
    go_wp2_with fail
    have hnl0 := HN.out
    refine at_world (FinP w ⟨0, ⟨x, y, z, n⟩, true && bb, ⟨#[]⟩, [], 0⟩ none (.slice A6 nl c6) nl (charsK true l)) ⟨put9_blk (VY.out.1.1.later B6.out).r _ _ _ _ _ _ _ _ _, (kyW_own (kyO_far K6.out (charsK_bare _ _) (Nat.lt_succ_self _) _ _ _ _ _ _ _ _ _)).1, by rw [charsK_len]; exact hnl0.symm, put9_below (belowStep VY.out.1.1.below B6.out) (Nat.le_succ _) _ _ _ _ _ _ _ _ _, rfl⟩ ?_
    rintro Z ⟨⟨y9, k9, j9⟩, hk, hn, hb, hc⟩
    have HZ := Lib.hid (And.intro hc (And.intro hk (And.intro hn hb)))
    have e0 := k9 0
    have e1 := k9 1
    have e2 := k9 2
    have e3 := k9 3
    have e4 := k9 4
    have e5 := k9 5
    have e6 := k9 6
    have e7 := k9 7
    have e8 := k9 8
    clear hc hk hn hb k9 j9 y9 y6 hnl0 q0 q1 q2 q3 q4 q5 q6 q7 q8 f0 f1 f2 f3 f4 f5 f6 f7 f8
    refine bodyPost_ret (v := .tuple #[psV ⟨0, ⟨x, y, z, n⟩, true && bb, ⟨#[]⟩, [], 0⟩ none, .slice A6 nl c6]) (by simp at e0 e1 e2 e3 e4 e5 e6 e7 e8; simp [results, Try.results38, go_sem, e0, e1, e2, e3, e4, e5, e6, e7, e8]) rfl ⟨none, A6, nl, c6, rfl, HZ.out.1, HZ.out.2.1, HZ.out.2.2.1, HZ.out.2.2.2⟩
end Go.Proofs.Ytkkenabckhmkoaa
