/- macro: the expansion's variable. -/
import Derived.Test.YtgdfcojgifgjcaaMcX
namespace Go.Proofs.Ytgdfcojgifgjcaa
open Go.RowKit Go.Maps
set_option linter.unusedVariables false
set_option linter.unusedSimpArgs false
set_option maxRecDepth 100000

abbrev ptr (g : Nat) : Value := .pointer (some ⟨g, 0, none⟩)
theorem key_elt : Elt Try.prog 34 30 4 40 := elt_of Try.underlying34 (z := .agg #[.int .i64 0, .int .i32 0, .bool false, .slice none 0 0]) (by kernel_rfl) rfl (by decide)
structure Xp (W : World) (g bo B : Nat) (mb : Value) (op : List Int) (q t n : Nat) (ks : List Ky) (A : Option Addr) (c : Nat) (hs : List Kp) (X : World) : Prop where
  below : Below W.heap.size W X
  b : Blk X g #[mb, .map (some bo), .int .i64 t, .slice A n c]
  lt : W.heap.size ≤ g ∧ g < B ∧ W.heap.size ≤ bo ∧ bo < B ∧ bo ≠ g ∧ B ≤ X.heap.size
  op_ : OpenM X bo q op
  row : X.ownsRow B 30 4 (.slice A n c) n (flatL encK hs)
  keys : KeysS X (fun b => B ≤ b ∧ some b ≠ (Value.slice A n c).ownBlock) hs ks
  kt : ks.length = n ∧ n ≤ t ∧ t ≤ 20000 ∧ q ≤ t + 1
section
variable {W X Y Z : World} {g bo B q t n c : Nat} {mb : Value} {op : List Int} {ks : List Ky} {A : Option Addr} {hs : List Kp}
theorem Xp.later (h : Xp W g bo B mb op q t n ks A c hs X) (hb : Below X.heap.size X Y) : Xp W g bo B mb op q t n ks A c hs Y :=
  ⟨belowStep h.below hb, h.b.later hb h.b.1, ⟨h.lt.1, h.lt.2.1, h.lt.2.2.1, h.lt.2.2.2.1, h.lt.2.2.2.2.1, Nat.le_trans h.lt.2.2.2.2.2 hb.size⟩, h.op_.below hb h.op_.lt, own_later h.row hb, h.keys.later hb, h.kt⟩
theorem Xp.taken (h : Xp W g bo B mb op q t n ks A c hs X) (ht : t < 20000) : Xp W g bo B mb op q (t + 1) n ks A c hs (X.setCell ⟨g, 2, none⟩ (.int .i64 ((t : Int) + 1))) := by
  have hl := h.lt
  refine ⟨h.below.setCell (p := ⟨g, 2, none⟩) hl.1 _, ?_, ?_, h.op_.far (p := ⟨g, 2, none⟩) (fun e => hl.2.2.2.2.1 e) _, ownsRow_setCell_below h.row (a := ⟨g, 2, none⟩) hl.2.1 _, h.keys.far (p := ⟨g, 2, none⟩) (by show ¬ (B ≤ g ∧ _); omega) _, h.kt.1, by have := h.kt; omega, by omega, by have := h.kt; omega⟩
  · have := h.b.set_ 2 (by simp) (.int .i64 ((t : Int) + 1))
    rw [show (((t + 1 : Nat)) : Int) = (t : Int) + 1 by omega]
    simpa using this
  · rw [World.size_setCell]; exact hl
theorem Xp.push {Y Z : World} {k r : Int} {m : Bool} {A2 A' : Option Addr} {n2 c2 c' : Nat} {l : List Int} (h : Xp W g bo B mb op q t n ks A c hs X) (hb : Below X.heap.size X Y) (ht : TxtS Y (fun b => X.heap.size ≤ b) (.slice A2 n2 c2) l)
    (hp : Pushed Y Z B 30 4 (.slice A n c) (n + 1) (flatL encK hs ++ [.int .i64 k, .int .i32 r, .bool m, .slice A2 n2 c2]) A' c') (hn : n + 1 ≤ t) :
    Xp W g bo B mb op q t (n + 1) (ks ++ [⟨k, r, m, l⟩]) A' c' (hs ++ [⟨k, r, m, A2, n2, c2⟩]) (Z.setCell ⟨g, 3, none⟩ (.slice A' (n + 1) c')) := by
  have hl := h.lt
  have hrow := own_later h.row hb
  have hB : B ≤ Y.heap.size := Nat.le_trans hl.2.2.2.2.2 hb.size
  have hgY : g < Y.heap.size := Nat.lt_of_lt_of_le hl.2.1 hB
  have hne : ∀ b, b < B → some b ≠ (Value.slice A n c).ownBlock := fun b hbB e => by
    have := (h.row.lt b e.symm).1
    omega
  have bZ : Blk Z g #[mb, .map (some bo), .int .i64 t, .slice A n c] := (h.b.later hb h.b.1).grown hp.grown (hne g hl.2.1)
  have keep : ∀ {S : Nat → Prop} {v : Value} {l : List Int}, (∀ b, S b → B ≤ b ∧ some b ≠ (Value.slice A n c).ownBlock) → TxtS Y S v l → TxtS (Z.setCell ⟨g, 3, none⟩ (.slice A' (n + 1) c')) (fun b => B ≤ b ∧ some b ≠ (Value.slice A' (n + 1) c').ownBlock) v l := fun {S v l} hS ht => by
    refine Sl.far (Sl.mono (Sl.grown (Sl.old ht) hp.grown fun b hb => (hS b hb.2).2) fun b hb => ⟨(hS b hb.2).1, fun e => ?_⟩) (p := ⟨g, 3, none⟩) (by show ¬ (B ≤ g ∧ _); omega) _
    rcases hp.at_ with e1 | ⟨k, e1, hk⟩
    · exact (hS b hb.2).2 (e.trans e1)
    · rw [e1] at e
      injection e with e
      have := hb.1
      omega
  refine ⟨(hp.below (belowStep h.below hb) hrow (by omega)).setCell (p := ⟨g, 3, none⟩) hl.1 _, ?_, ?_, ((h.op_.below hb h.op_.lt).grown hp.grown (hne bo hl.2.2.2.1)).far (p := ⟨g, 3, none⟩) (fun e => hl.2.2.2.2.1 e) _, ?_, ⟨by simp [h.keys.1], fun j z hz => ?_⟩, ?_⟩
  · have := bZ.set_ 3 (by simp) (.slice A' (n + 1) c')
    simpa using this
  · rw [World.size_setCell]
    have := hp.grown.size
    exact ⟨hl.1, hl.2.1, hl.2.2.1, hl.2.2.2.1, hl.2.2.2.2.1, by omega⟩
  · have := hp.own
    rw [flatL_snoc]
    exact ownsRow_setCell_below this (a := ⟨g, 3, none⟩) hl.2.1 _
  · rcases Nat.lt_or_ge j hs.length with hj | hj
    · rw [List.getElem?_append_left hj] at hz
      obtain ⟨y, k1, k2, k3, k4, k5⟩ := h.keys.2 j z hz
      exact ⟨y, by rw [List.getElem?_append_left (by rw [← h.keys.1]; exact hj)]; exact k1, k2, k3, k4, keep (fun b hb => hb) (k5.later hb)⟩
    · rw [List.getElem?_append_right hj] at hz
      have hj0 : j - hs.length = 0 := by have := (List.getElem?_eq_some_iff.1 hz).1; simp at this; omega
      rw [hj0] at hz
      obtain rfl := Option.some.inj hz
      refine ⟨_, by rw [List.getElem?_append_right (by rw [← h.keys.1]; exact hj), ← h.keys.1, hj0]; rfl, rfl, rfl, rfl, keep (S := fun b => X.heap.size ≤ b) (fun b hbX => ⟨by omega, fun e => ?_⟩) ht⟩
      have := (h.row.lt b e.symm).2
      omega
  · have := h.kt
    exact ⟨by simp [this.1], hn, this.2.2.1, this.2.2.2⟩
theorem Xp.pushB {Y Z : World} {A' : Option Addr} {c' : Nat} {zs : List Value} (h : Xp W g bo B mb op q t n ks A c hs X) (hb : Below X.heap.size X Y) (hp : Pushed Y Z B 30 4 (.slice A n c) (n + 1) zs A' c') : Blk Z g #[mb, .map (some bo), .int .i64 t, .slice A n c] :=
  (h.b.later hb h.b.1).grown hp.grown fun e => by
    have := (h.row.lt g e.symm).1
    have := h.lt.2.1
    omega
theorem Xp.mapped {op' : List Int} {q' : Nat} (h : Xp W g bo B mb op q t n ks A c hs X) (ho : OpenM Y bo q' op') (hg : X.grownBy Y (some bo)) (hq : q' ≤ t + 1) : Xp W g bo B mb op' q' t n ks A c hs Y := by
  have hl := h.lt
  have hrow : (Value.slice A n c).ownBlock = none ∨ (Value.slice A n c).ownBlock ≠ some bo := by
    by_cases e : (Value.slice A n c).ownBlock = some bo
    · have := (h.row.lt bo e).1
      omega
    · exact .inr e
  refine ⟨h.below.grown hg (by have := h.below.size; omega) (fun k hk => by injection hk with hk; omega), h.b.grown hg (fun e => by injection e with e; exact hl.2.2.2.2.1 e.symm), ⟨hl.1, hl.2.1, hl.2.2.1, hl.2.2.2.1, hl.2.2.2.2.1, Nat.le_trans hl.2.2.2.2.2 hg.size⟩, ho, h.row.kept hg hrow, h.keys.grown hg (fun b hb e => by injection e with e; omega), h.kt.1, h.kt.2.1, h.kt.2.2.1, hq⟩
theorem Xp.cells (h : Xp W g bo B mb op q t n ks A c hs X) : g < X.heap.size ∧ X.cell? ⟨g, 0, none⟩ = some mb ∧ X.cell? ⟨g, 1, none⟩ = some (.map (some bo)) ∧ X.cell? ⟨g, 2, none⟩ = some (.int .i64 t) ∧ X.cell? ⟨g, 3, none⟩ = some (.slice A n c) ∧ ∀ j, X.frozen? ⟨g, j, none⟩ = false := ⟨h.b.1, h.b.2.1 0, h.b.2.1 1, h.b.2.1 2, h.b.2.1 3, h.b.2.2⟩
end
end Go.Proofs.Ytgdfcojgifgjcaa
