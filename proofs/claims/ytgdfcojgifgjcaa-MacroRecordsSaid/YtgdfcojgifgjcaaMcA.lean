/- macro: keyCopy. -/
import Derived.Test.YtgdfcojgifgjcaaClonep
namespace Go.Proofs.Ytgdfcojgifgjcaa
open Go.RowKit
set_option linter.unusedVariables false
set_option linter.unusedSimpArgs false

/-- A key's value. -/
abbrev keyV (k r : Int) (m : Bool) (A : Option Addr) (n c : Nat) : Value := .agg #[.int .i64 k, .int .i32 r, .bool m, .slice A n c]
theorem belAlloc (w : World) (o : Obj) : Below w.heap.size w (w.alloc o) := (Below.refl _ _).alloc (Nat.le_refl _) _
theorem belPush {w v : World} (h : Below w.heap.size w v) (o : Obj) : Below w.heap.size w (v.alloc o) := h.alloc h.size _
theorem belowStep {W w w' : World} (h : Below W.heap.size W w) (h' : Below w.heap.size w w') : Below W.heap.size W w' := h.trans (h'.mono h.size)

theorem at_callsM {P : Program} {f : FuncId} {args : Array Value} {Q : Ending → World → Prop} {X : World} (F : World → Prop) (hF : F X) (h : ∀ X, F X → Calls P f args X Q) : Calls P f args X Q := h X hF
/-- What keyCopy keeps. -/
structure Kc (w : World) (k r : Int) (m : Bool) (A : Option Addr) (n c : Nat) (X : World) : Prop where
  below : Below w.heap.size w X
  b : Blk X w.heap.size #[.int .i64 k, .int .i32 r, .bool m, .slice A n c]
  r : Blk X (w.heap.size + 1) #[.int .i64 0, .int .i32 0, .bool false, .slice none 0 0]
theorem Kc.later {w X Y : World} {k r : Int} {m : Bool} {A : Option Addr} {n c : Nat} (h : Kc w k r m A n c X) (hb : Below X.heap.size X Y) : Kc w k r m A n c Y := ⟨belowStep h.below hb, h.b.later hb h.b.1, h.r.later hb h.r.1⟩
theorem Kc.text {w X : World} {k r : Int} {m : Bool} {A A' : Option Addr} {n c n' c' : Nat} (h : Kc w k r m A n c X) : Kc w k r m A' n' c' (X.setCell ⟨w.heap.size, 3, none⟩ (.slice A' n' c')) :=
  ⟨h.below.setCell (Nat.le_refl _) _, h.b.set_ 3 (by simp) _, h.r.far (by show w.heap.size ≠ _; omega) _⟩
theorem kc_start (w : World) (k r : Int) (m : Bool) (A : Option Addr) (n c : Nat) : Kc w k r m A n c ((w.alloc (.cells #[.int .i64 k, .int .i32 r, .bool m, .slice A n c] 30)).alloc (.cells #[.int .i64 0, .int .i32 0, .bool false, .slice none 0 0] 30)) := by
  refine ⟨belPush (belAlloc _ _) _, (blk_new w _ _).alloc _, ?_⟩
  have := blk_new (w.alloc (.cells #[.int .i64 k, .int .i32 r, .bool m, .slice A n c] 30)) #[.int .i64 0, .int .i32 0, .bool false, .slice none 0 0] 30
  simpa using this
def KcT (w : World) (k r : Int) (m : Bool) (A : Option Addr) (n c : Nat) (l : List Int) (Y : World) : Prop := Y.cell? ⟨w.heap.size + 1, 0, none⟩ = some (.int .i64 k) ∧ Y.cell? ⟨w.heap.size + 1, 1, none⟩ = some (.int .i32 r) ∧ Y.cell? ⟨w.heap.size + 1, 2, none⟩ = some (.bool m) ∧ Y.cell? ⟨w.heap.size + 1, 3, none⟩ = some (.slice A n c) ∧ TxtS Y (fun b => w.heap.size + 2 ≤ b) (.slice A n c) l ∧ Below w.heap.size w Y
theorem Kc.told {w X : World} {k r : Int} {m : Bool} {A : Option Addr} {n c : Nat} {l : List Int} (h : Kc w k r m A n c X) (ht : TxtS X (fun b => w.heap.size + 2 ≤ b) (.slice A n c) l) : KcT w k r m A n c l ((((X.setCell ⟨w.heap.size + 1, 0, none⟩ (.int .i64 k)).setCell ⟨w.heap.size + 1, 1, none⟩ (.int .i32 r)).setCell ⟨w.heap.size + 1, 2, none⟩ (.bool m)).setCell ⟨w.heap.size + 1, 3, none⟩ (.slice A n c)) := by
  have b := (((h.r.set_ 0 (by simp) (.int .i64 k)).set_ 1 (by simp) (.int .i32 r)).set_ 2 (by simp) (.bool m)).set_ 3 (by simp) (.slice A n c)
  have hn : ¬ (w.heap.size + 2 ≤ w.heap.size + 1) := by omega
  exact ⟨b.2.1 0, b.2.1 1, b.2.1 2, b.2.1 3, (((Sl.far ht (p := ⟨w.heap.size + 1, 0, none⟩) hn _).far (p := ⟨w.heap.size + 1, 1, none⟩) hn _).far (p := ⟨w.heap.size + 1, 2, none⟩) hn _).far (p := ⟨w.heap.size + 1, 3, none⟩) hn _,
    (((h.below.setCell (by show _ ≤ w.heap.size + 1; omega) _).setCell (by show _ ≤ w.heap.size + 1; omega) _).setCell (by show _ ≤ w.heap.size + 1; omega) _).setCell (by show _ ≤ w.heap.size + 1; omega) _⟩

set_option maxHeartbeats 2000000 in
set_option maxRecDepth 100000 in
theorem keycopy_any (k r : Int) (m : Bool) (A : Option Addr) (n c : Nat) (l : List Int) (w : World) (hT : Txt w (.slice A n c) l) (hl : l.length ≤ 1000000000) :
    Calls Try.prog 28 #[keyV k r m A n c] w fun e w' => ∃ A' n' c', e = .returned (keyV k r m A' n' c') ∧ TxtS w' (fun b => w.heap.size ≤ b) (.slice A' n' c') l ∧ Below w.heap.size w w' := by
  have V0 := Lib.hid (kc_start w k r m A n c)
  have HT := Lib.hid hT
  clear hT
  go_enter Try.func28, Try.ntmps28
  go_wp2_with fail
  refine at_callsM (Kc w k r m A n c) V0.out ?_
  intro X hX
  have V1 := Lib.hid hX
  clear hX V0
  refine (clone_any _ l X (HT.out.later V1.out.below) hl).mono ?_
  rintro e w2 ⟨A2, n2, c2, rfl, t2, b2⟩
  have V2 := Lib.hid (And.intro (V1.out.later b2) (Sl.mono t2 (S' := fun b => w.heap.size + 2 ≤ b) fun q hq => by have := V1.out.r.1; omega))
  clear t2 b2 V1
  obtain ⟨y1, k1, j1⟩ := (show _ from V2.out.1.b)
  go_upto_region 2 with fail
  refine at_world (fun Y => Kc w k r m A2 n2 c2 Y ∧ TxtS Y (fun b => w.heap.size + 2 ≤ b) (.slice A2 n2 c2) l) ⟨V2.out.1.text, Sl.far V2.out.2 (p := ⟨w.heap.size, 3, none⟩) (by show ¬ (w.heap.size + 2 ≤ w.heap.size); omega) _⟩ ?_
  intro Y hY
  have V3 := Lib.hid hY
  clear hY V2 y1 k1 j1
  obtain ⟨y1, k1, j1⟩ := (show _ from V3.out.1.b)
  obtain ⟨y2, k2, j2⟩ := (show _ from V3.out.1.r)
  go_wp2_with fail
  refine at_world (KcT w k r m A2 n2 c2 l) (V3.out.1.told V3.out.2) ?_
  rintro Z ⟨x0, x1, x2, x3, hZ, hb⟩
  have HZ := Lib.hid (And.intro hZ hb)
  clear hZ hb y1 k1 j1 y2 k2 j2
  refine bodyPost_ret (v := keyV k r m A2 n2 c2) (by simp [results, Try.results28, go_sem, x0, x1, x2, x3]) rfl ⟨A2, n2, c2, rfl, Sl.mono HZ.out.1 fun q hq => by omega, HZ.out.2⟩
end Go.Proofs.Ytgdfcojgifgjcaa
