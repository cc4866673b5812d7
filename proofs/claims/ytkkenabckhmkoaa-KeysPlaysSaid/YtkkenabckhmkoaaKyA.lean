/- keys: keys in memory. -/
import Derived.Test.YtkkenabckhmkoaaKyP
import Derived.Test.YtkkenabckhmkoaaLiC
import Derived.Test.YtkkenabckhmkoaaStepL
namespace Go.Proofs.Ytkkenabckhmkoaa
open Go.RowKit
set_option linter.unusedVariables false
set_option linter.unusedSimpArgs false
set_option maxRecDepth 100000

theorem belAlloc (w : World) (o : Obj) : Below w.heap.size w (w.alloc o) := (Below.refl _ _).alloc (Nat.le_refl _) _
theorem belPush {w v : World} (h : Below w.heap.size w v) (o : Obj) : Below w.heap.size w (v.alloc o) := h.alloc h.size _
theorem belowStep {W w w' : World} (h : Below W.heap.size W w) (h' : Below w.heap.size w w') : Below W.heap.size W w' := h.trans (h'.mono h.size)
/-- A key in memory. -/
structure Kp where
  k : Int
  r : Int
  m : Bool
  A : Option Addr
  n : Nat
  c : Nat
def encK (x : Kp) : List Value := [.int .i64 x.k, .int .i32 x.r, .bool x.m, .slice x.A x.n x.c]
theorem encK_len (x : Kp) : (encK x).length = 4 := rfl
theorem encK_one : ∀ x : Kp, ∀ u ∈ encK x, u.oneCell' = true := by
  intro x u hu
  simp [encK] at hu
  rcases hu with rfl | rfl | rfl | rfl <;> rfl
theorem key_elt : Elt Try.prog 32 47 4 40 := elt_of Try.underlying32 (z := .agg #[.int .i64 0, .int .i32 0, .bool false, .slice none 0 0]) (by kernel_rfl) rfl (by decide)
/-- A key reads as y. -/
def KeyW (X : World) (x : Kp) (y : Ky) : Prop := x.k = y.k ∧ x.r = y.r ∧ x.m = y.m ∧ x.n = y.t.length ∧ Rd X x.A x.n (li y.t)
theorem KeyW.later {X Y : World} {x : Kp} {y : Ky} (h : KeyW X x y) (hb : Below X.heap.size X Y) : KeyW Y x y := ⟨h.1, h.2.1, h.2.2.1, h.2.2.2.1, h.2.2.2.2.later hb⟩
/-- Keys without texts. -/
def bare (ks : List Ky) : List Kp := ks.map fun y => ⟨y.k, y.r, y.m, none, 0, 0⟩
def Bare (ks : List Ky) : Prop := ∀ y ∈ ks, y.t = []
def KeysW (X : World) (hs : List Kp) (ks : List Ky) : Prop := hs.length = ks.length ∧ ∀ (j : Nat) (x : Kp), hs[j]? = some x → ∃ y : Ky, ks[j]? = some y ∧ KeyW X x y
theorem KeysW.later {X Y : World} {hs : List Kp} {ks : List Ky} (h : KeysW X hs ks) (hb : Below X.heap.size X Y) : KeysW Y hs ks := ⟨h.1, fun j x hx => by
  obtain ⟨y, h1, h2⟩ := h.2 j x hx
  exact ⟨y, h1, h2.later hb⟩⟩
theorem KeysW.nil (X : World) : KeysW X [] [] := ⟨rfl, fun j x hx => by simp at hx⟩
theorem KeysW.append {X : World} {hs gs : List Kp} {ks ls : List Ky} (h : KeysW X hs ks) (g : KeysW X gs ls) : KeysW X (hs ++ gs) (ks ++ ls) := by
  refine ⟨by simp [h.1, g.1], fun j x hx => ?_⟩
  rcases Nat.lt_or_ge j hs.length with hj | hj
  · rw [List.getElem?_append_left hj] at hx
    obtain ⟨y, h1, h2⟩ := h.2 j x hx
    exact ⟨y, by rw [List.getElem?_append_left (by rw [← h.1]; exact hj)]; exact h1, h2⟩
  · rw [List.getElem?_append_right hj] at hx
    obtain ⟨y, h1, h2⟩ := g.2 _ x hx
    exact ⟨y, by rw [List.getElem?_append_right (by rw [← h.1]; exact hj), ← h.1]; exact h1, h2⟩
theorem keysW_one {X : World} {x : Kp} {y : Ky} (h : KeyW X x y) : KeysW X [x] [y] := by
  refine ⟨rfl, fun j z hz => ?_⟩
  have hj : j = 0 := by have := (List.getElem?_eq_some_iff.1 hz).1; simp at this; omega
  subst hj
  obtain rfl := Option.some.inj hz
  exact ⟨y, rfl, h⟩
theorem keyW_bare (X : World) (k r : Int) (m : Bool) : KeyW X ⟨k, r, m, none, 0, 0⟩ ⟨k, r, m, []⟩ := ⟨rfl, rfl, rfl, rfl, Rd.empty _ _ _⟩
theorem keysW_bare (X : World) : ∀ {ks : List Ky}, Bare ks → KeysW X (bare ks) ks
  | [], _ => KeysW.nil X
  | y :: ks, h => by
    have hy := h y (by simp)
    obtain ⟨k, r, m, t⟩ := y
    dsimp only at hy
    subst hy
    exact (keysW_one (keyW_bare X k r m)).append (keysW_bare X fun y hy => h y (by simp [hy]))
/-- A slice reads as keys. -/
def KyW (X : World) (v : Value) (ks : List Ky) : Prop := ∃ hs : List Kp, LiV 4 encK X (fun _ => True) v hs ∧ KeysW X hs ks
theorem KyW.later {X Y : World} {v : Value} {ks : List Ky} (h : KyW X v ks) (hb : Below X.heap.size X Y) : KyW Y v ks := by
  obtain ⟨hs, h1, h2⟩ := h
  exact ⟨hs, h1.later hb, h2.later hb⟩
theorem kyW_nil (X : World) : KyW X (.slice none 0 0) [] := ⟨[], LiV.nil _ _, KeysW.nil X⟩
theorem KyW.is {X : World} {v : Value} {ks : List Ky} (h : KyW X v ks) : ∃ A c, v = .slice A ks.length c ∧ ks.length ≤ c ∧ c ≤ 9223372036854775807 := by
  obtain ⟨hs, h1, h2⟩ := h
  obtain ⟨A, c, e, h3, h4⟩ := h1.is
  rw [h2.1] at e h3
  exact ⟨A, c, e, h3, h4⟩
/-- A row of the call's own that reads as keys. -/
def KyO (base : Nat) (X : World) (v : Value) (n : Nat) (ks : List Ky) : Prop := ∃ hs : List Kp, X.ownsRow base 47 4 v n (flatL encK hs) ∧ KeysW X hs ks
theorem kyW_own {base n c : Nat} {X : World} {A : Option Addr} {ks : List Ky} (h : KyO base X (.slice A n c) n ks) : KyW X (.slice A n c) ks ∧ n = ks.length := by
  obtain ⟨hs, h1, h2⟩ := h
  have hl := LiV.own encK_len (by omega) h1
  refine ⟨⟨hs, hl.mono fun _ _ => trivial, h2⟩, ?_⟩
  rw [← h2.1]
  exact hl.parts.1
/-- A new block that holds one key, a slice of it. -/
theorem kyW_new1 (w : World) (t : TypeId) (k r : Int) (m : Bool) : KyW (w.alloc (.cells #[.int .i64 k, .int .i32 r, .bool m, .slice none 0 0] t)) (.slice (some ⟨w.heap.size, 0, none⟩) 1 1) [⟨k, r, m, []⟩] :=
  ⟨[⟨k, r, m, none, 0, 0⟩], ⟨_, 1, rfl, (Li.new encK_len w _ t (by simp [flatL, encK])).mono fun _ _ => trivial, (fun h => by cases h), Nat.le_refl _, by decide⟩, keysW_one (keyW_bare _ _ _ _)⟩
theorem key_newT (Y : World) (d : Kp) (ty : TypeId) : LiV 4 encK (Y.alloc (.cells #[.int .i64 d.k, .int .i32 d.r, .bool d.m, .slice d.A d.n d.c] ty)) (fun b => Y.heap.size ≤ b) (.slice (some ⟨Y.heap.size, 0, none⟩) 1 1) [d] :=
  ⟨_, 1, rfl, Li.new encK_len Y _ ty (by simp [flatL, encK]), (fun h => by cases h), Nat.le_refl _, by decide⟩
/-- What was pasted, the last byte first. -/
def Chain (X : World) : Option Addr → List Int → Prop
  | T, [] => T = none
  | T, b :: l => ∃ g T', T = some ⟨g, 0, none⟩ ∧ g < X.heap.size ∧ X.cell? ⟨g, 0, none⟩ = some (.int .u8 b) ∧ X.cell? ⟨g, 1, none⟩ = some (.pointer T') ∧ Chain X T' l
theorem Chain.later {X Y : World} (hb : Below X.heap.size X Y) : ∀ {l : List Int} {T : Option Addr}, Chain X T l → Chain Y T l
  | [], T, h => h
  | b :: l, T, h => by
    obtain ⟨g, T', h1, h2, h3, h4, h5⟩ := h
    exact ⟨g, T', h1, Nat.lt_of_lt_of_le h2 hb.size, (hb.cell (p := ⟨g, 0, none⟩) h2).trans h3, (hb.cell (p := ⟨g, 1, none⟩) h2).trans h4, Chain.later hb h5⟩
/-- A parser's value. -/
abbrev psV (s : KS) (T : Option Addr) : Value := .agg #[.int .i64 s.w, .int .u8 s.d.h0, .int .u8 s.d.h1, .int .u8 s.d.h2, .int .i64 s.d.n, .bool s.m, .string s.row, .pointer T, .int .i64 s.cl]
/-- What a step tells: the parser behind it, keys. -/
def Tells (r : KS × List Ky) (w : World) (e : Ending) (w' : World) : Prop := ∃ T A n c, e = .returned (.tuple #[psV r.1 T, .slice A n c]) ∧ Chain w' T r.1.tx ∧ KyW w' (.slice A n c) r.2 ∧ n = r.2.length ∧ Below w.heap.size w w'
end Go.Proofs.Ytkkenabckhmkoaa
