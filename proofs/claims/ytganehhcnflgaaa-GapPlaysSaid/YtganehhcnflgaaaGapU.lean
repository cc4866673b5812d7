/- gap: what stands between two rounds. -/
import Derived.Test.YtganehhcnflgaaaGapT
namespace Go.Proofs.Ytganehhcnflgaaa
open Go.RowKit
set_option linter.unusedVariables false
set_option linter.unusedSimpArgs false

/-- Deeds that came in. -/
def Deeds (w : World) (A : Option Addr) (n : Nat) (F T : Nat → Int) (sv : Nat → Value) (ls : Nat → List Int) : Prop :=
  ∀ i, i < n → ∃ b o, A = some ⟨b, o, none⟩ ∧ b < w.heap.size ∧ w.cell? ⟨b, o + i * 3, none⟩ = some (.int .i64 (F i)) ∧ w.cell? ⟨b, o + i * 3 + 1, none⟩ = some (.int .i64 (T i)) ∧ w.cell? ⟨b, o + i * 3 + 2, none⟩ = some (sv i) ∧ IntS w Any (sv i) (ls i)
theorem deeds_later {w w' : World} {A : Option Addr} {n : Nat} {F T : Nat → Int} {sv : Nat → Value} {ls : Nat → List Int} (h : Deeds w A n F T sv ls) (hb : Below w.heap.size w w') {i : Nat} (hi : i < n) :
    ∃ b o, A = some ⟨b, o, none⟩ ∧ b < w.heap.size ∧ w'.cell? ⟨b, o + i * 3, none⟩ = some (.int .i64 (F i)) ∧ w'.cell? ⟨b, o + i * 3 + 1, none⟩ = some (.int .i64 (T i)) ∧ w'.cell? ⟨b, o + i * 3 + 2, none⟩ = some (sv i) ∧ IntS w' (fun b => b < w.heap.size) (sv i) (ls i) := by
  obtain ⟨b, o, e, hl, h1, h2, h3, h4⟩ := h i hi
  exact ⟨b, o, e, hl, (hb.cell (p := ⟨b, o + i * 3, none⟩) hl).trans h1, (hb.cell (p := ⟨b, o + i * 3 + 1, none⟩) hl).trans h2, (hb.cell (p := ⟨b, o + i * 3 + 2, none⟩) hl).trans h3, ((Sl.old h4).mono fun b hb => hb.1).later hb⟩

theorem Sl.chg {S T : Nat → Prop} {w w' : World} {v : Value} {n : Nat} {f : Nat → Value} (h : Sl w S v n f) (k : Chg T w w') (hs : ∀ b, S b → ¬ T b) : Sl w' S v n f := by
  obtain ⟨A, c, e, hr, h0, h1, h2, h3⟩ := h
  refine ⟨A, c, e, ?_, h0, h1, h2, h3⟩
  by_cases hn : 0 < n
  · exact hr.chg k fun b o e => hs b (h3 _ e hn)
  · obtain rfl : n = 0 := by omega
    exact Rd.empty _ _ _

/-- Between two rounds: the list with a gap, the document's list, nothing turned that was there at the beginning. -/
structure St (w0 : World) (gb B0 : Nat) (AG : Option Addr) (L : List Int) (v : Value) (wr : World) : Prop where
  lst : Lst wr gb B0 AG L
  r : IntS wr (fun b => ¬ Mine gb AG b) v L
  below : Below w0.heap.size w0 wr
  b0 : w0.heap.size ≤ B0
  gbb : B0 ≤ gb

theorem St.later {w0 wr w' : World} {gb B0 : Nat} {AG : Option Addr} {L : List Int} {v : Value} (h : St w0 gb B0 AG L v wr) (hb : Below wr.heap.size wr w') : St w0 gb B0 AG L v w' :=
  ⟨h.lst.later hb, Sl.later h.r hb, h.below.trans (hb.mono h.below.size), h.b0, h.gbb⟩
theorem St.size {w0 wr : World} {gb B0 : Nat} {AG : Option Addr} {L : List Int} {v : Value} (h : St w0 gb B0 AG L v wr) : B0 ≤ wr.heap.size := Nat.le_trans h.gbb (Nat.le_of_lt h.lst.lt.1)
theorem St.far {w0 wr : World} {gb B0 : Nat} {AG : Option Addr} {L : List Int} {v : Value} (h : St w0 gb B0 AG L v wr) : ∀ k, k < w0.heap.size → ¬ Mine gb AG k := by
  intro k hk hm
  have h1 := h.b0
  have h2 := h.gbb
  rcases hm with rfl | hm
  · omega
  · have := (h.lst.lt.2 k hm).1; omega

theorem St.splice {w0 X w2 w3 : World} {gb B0 : Nat} {AG : Option Addr} {L L' : List Int} {v v' : Value} {e : Ending} (h : St w0 gb B0 AG L v X) (hb : Below X.heap.size X w2) (hr : IntS w2 (fun g => X.heap.size ≤ g) v' L') (hs : Spliced w2 gb B0 AG L' e w3) :
    e = .returned (.bool true) ∧ ∃ AG', St w0 gb B0 AG' L' v' w3 := by
  have h2 := h.later hb
  have hbw : Below w0.heap.size w2 w3 := hs.below h.gbb (fun b hb => (h.lst.lt.2 b hb).1) h.b0 h2.below.size
  obtain ⟨he, ⟨AG', hl, hf⟩, hc⟩ := hs
  refine ⟨he, AG', hl, ?_, h2.below.trans hbw, h.b0, h.gbb⟩
  have hx := h.lst.lt
  have h3 : IntS w3 (fun g => g < w2.heap.size ∧ X.heap.size ≤ g) v' L' := (Sl.old hr).chg hc fun b hb hm => by
    rcases hm with rfl | hm
    · omega
    · have := (hx.2 b hm).2; omega
  refine Sl.mono h3 fun b hb hm => ?_
  rcases hm with rfl | hm
  · omega
  · rcases hf with rfl | ⟨b', rfl, hb'⟩
    · have := (hx.2 b hm).2; omega
    · have e2 : b' = b := by simpa [Own] using hm
      omega

theorem St.drewN {w0 wr : World} {gb B0 : Nat} {AG : Option Addr} {L : List Int} {v : Value} (h : St w0 gb B0 AG L v wr) (q : Nat) : St w0 gb B0 AG L v (wr.drewN q) := h.later (below_drewN (Below.refl _ _) q)
theorem one_later (w : World) (o : Obj) : Below w.heap.size w (w.alloc o) := (Below.refl _ _).alloc (Nat.le_refl _) _
theorem lst_at_no {w : World} {gb B0 : Nat} {A : Option Addr} {L : List Int} (h : Lst w gb B0 A L) (i : Int) (hno : i < 0 ∨ (L.length : Int) ≤ i) :
    Calls Try.prog 12 #[ptr gb, .int .i64 i] w fun e w' => e = .returned (.tuple #[.int .i64 0, .bool false]) ∧ ∃ q, w' = w.drewN q := by
  obtain ⟨N, C, fr, te, cur, G, hL⟩ := h
  exact at_no G hL i hno
theorem lst_at_yes {w : World} {gb B0 : Nat} {A : Option Addr} {L : List Int} (h : Lst w gb B0 A L) (i : Nat) (hi : i < L.length) :
    Calls Try.prog 12 #[ptr gb, .int .i64 i] w fun e w' => e = .returned (.tuple #[.int .i64 (L.getD i 0), .bool true]) ∧ ∃ q, w' = w.drewN q := by
  obtain ⟨N, C, fr, te, cur, G, hL⟩ := h
  exact at_yes G hL i hi
theorem lst_slice {w : World} {gb B0 : Nat} {A : Option Addr} {L : List Int} (h : Lst w gb B0 A L) (x y Yi : Int) (X : Nat) (hE : Ends x y L.length X Yi) :
    Calls Try.prog 13 #[ptr gb, .int .i64 x, .int .i64 y] w (TellsI ((L.drop X).take (Yi - X).toNat) w) := by
  obtain ⟨N, C, fr, te, cur, G, hL⟩ := h
  exact slice_any G hL x y Yi L.length X rfl hE
theorem lst_splice_no {w : World} {gb B0 : Nat} {A : Option Addr} {L : List Int} (h : Lst w gb B0 A L) (x y : Int) (v : Value) (hno : x < 0 ∨ y < x ∨ (L.length : Int) < y) :
    Calls Try.prog 7 #[ptr gb, .int .i64 x, .int .i64 y, v] w fun e w' => e = .returned (.bool false) ∧ ∃ q, w' = w.drewN q := by
  obtain ⟨N, C, fr, te, cur, G, hL⟩ := h
  exact splice_no G hL x y v hno
end Go.Proofs.Ytganehhcnflgaaa
