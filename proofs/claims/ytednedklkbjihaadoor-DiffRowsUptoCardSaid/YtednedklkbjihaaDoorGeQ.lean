/- grid: deeds that come in. -/
import Derived.Test.YtednedklkbjihaaDoorGeK

import Derived.Test.YtednedklkbjihaaDoorArgS

namespace Go.Proofs.YtednedklkbjihaaDoor

open Go.ChangeShapes Go.WideShapes Go.ChangeAt Go.RowKit Go.Deep

set_option linter.unusedVariables false

set_option linter.unusedSimpArgs false
set_option maxRecDepth 100000

/-- A deed: its kind, a row, a column, a glyph. -/
structure Dd where
  k : Int
  r : Int
  c : Int
  t : ByteArray
  wd : Int

def DeedAt (W : World) (A : Option Addr) (i : Nat) (d : Dd) : Prop :=
  ∃ b o, A = some ⟨b, o, none⟩ ∧ b < W.heap.size ∧ W.cell? ⟨b, o + i * 5, none⟩ = some (.int .i64 d.k) ∧ W.cell? ⟨b, o + i * 5 + 1, none⟩ = some (.int .i64 d.r) ∧ W.cell? ⟨b, o + i * 5 + 2, none⟩ = some (.int .i64 d.c) ∧
    W.cell? ⟨b, o + i * 5 + 3, none⟩ = some (.string d.t) ∧ W.cell? ⟨b, o + i * 5 + 4, none⟩ = some (.int .i64 d.wd)

section

variable {H : Type} {enc : TypeId × Value → H} {W : World} {base : Nat} {spare : Nat → Bool} {held : Bool}

theorem five {cs : List Value} (h : cs.length = 5) : ∃ a b c d e, cs = [a, b, c, d, e] := by
  match cs, h with
  | [a, b, c, d, e], _ => exact ⟨a, b, c, d, e, rfl⟩

theorem trod_deed {fuel : Nat} {cs : List Value} {y : DataW H × List MemPlace} (h : DataW.trod enc Tryd.prog W base spare held fuel 65 cs = some y) :
    ∃ d : Dd, cs = [.int .i64 d.k, .int .i64 d.r, .int .i64 d.c, .string d.t, .int .i64 d.wd] := by
  obtain ⟨xs, n, _, _, hl, hx, hf⟩ := DataW.trod_struct Tryd.underlying65 h
  rw [show Tryd.prog.cellsOf 65 = 5 by kernel_rfl] at hl
  obtain ⟨a, b, c, d, e, rfl⟩ := five hl
  have hx4 : xs.length = 4 := hx
  have g (j : Nat) (hj : j < 4) : ∃ v, xs[j]? = some v := ⟨_, List.getElem?_eq_getElem (by omega)⟩
  obtain ⟨v0, h0⟩ := g 0 (by omega)
  obtain ⟨v1, h1⟩ := g 1 (by omega)
  obtain ⟨v2, h2⟩ := g 2 (by omega)
  obtain ⟨v3, h3⟩ := g 3 (by omega)
  have ci : Tryd.prog.cellsOf 3 = 1 := by kernel_rfl
  have cg : Tryd.prog.cellsOf 63 = 2 := by kernel_rfl
  have f0 : DataW.trod enc Tryd.prog W base spare held n 3 (([a, b, c, d, e].drop 0).take (Tryd.prog.cellsOf 3)) = some v0 := by rw [← h0]; exact hf 0 _ rfl
  have f1 : DataW.trod enc Tryd.prog W base spare held n 3 (([a, b, c, d, e].drop 1).take (Tryd.prog.cellsOf 3)) = some v1 := by rw [← h1]; exact hf 1 _ rfl
  have f2 : DataW.trod enc Tryd.prog W base spare held n 3 (([a, b, c, d, e].drop 2).take (Tryd.prog.cellsOf 3)) = some v2 := by rw [← h2]; exact hf 2 _ rfl
  have f3 : DataW.trod enc Tryd.prog W base spare held n 63 (([a, b, c, d, e].drop 3).take (Tryd.prog.cellsOf 63)) = some v3 := by rw [← h3]; exact hf 3 _ rfl
  rw [ci] at f0 f1 f2
  rw [cg] at f3
  simp only [List.drop_zero, List.drop_succ_cons, List.take_succ_cons, List.take_zero] at f0 f1 f2 f3
  obtain ⟨k, e0, _⟩ := DataW.trod_int Tryd.underlying3 f0
  obtain ⟨r, e1, _⟩ := DataW.trod_int Tryd.underlying3 f1
  obtain ⟨cc, e2, _⟩ := DataW.trod_int Tryd.underlying3 f2
  obtain ⟨ys, n', _, _, _, hy, hg⟩ := DataW.trod_struct Tryd.underlying63 f3
  have hy2 : ys.length = 2 := hy
  obtain ⟨u0, k0⟩ : ∃ v, ys[0]? = some v := ⟨_, List.getElem?_eq_getElem (by omega)⟩
  obtain ⟨u1, k1⟩ : ∃ v, ys[1]? = some v := ⟨_, List.getElem?_eq_getElem (by omega)⟩
  have cs1 : Tryd.prog.cellsOf 9 = 1 := by kernel_rfl
  have g0 : DataW.trod enc Tryd.prog W base spare held n' 9 (([d, e].drop 0).take (Tryd.prog.cellsOf 9)) = some u0 := by rw [← k0]; exact hg 0 _ rfl
  have g1 : DataW.trod enc Tryd.prog W base spare held n' 3 (([d, e].drop 1).take (Tryd.prog.cellsOf 3)) = some u1 := by rw [← k1]; exact hg 1 _ rfl
  rw [cs1] at g0
  rw [ci] at g1
  simp only [List.drop_zero, List.drop_succ_cons, List.take_succ_cons, List.take_zero] at g0 g1
  obtain ⟨t, e3, _⟩ := DataW.trod_string Tryd.underlying9 g0
  obtain ⟨wd, e4, _⟩ := DataW.trod_int Tryd.underlying3 g1
  injection e0 with e0
  injection e1 with e1
  injection e2 with e2
  injection e3 with e3
  injection e4 with e4
  exact ⟨⟨k, r, cc, t, wd⟩, by rw [e0, e1, e2, e3, e4]⟩

theorem arg_deeds {v : Value} {r : Reach} {b0 : Nat} {d : DataW H} {p : List MemPlace} (hv : Value.okWide Tryd.prog W r b0 22 v) (h : DataW.Trod enc Tryd.prog W base spare held 22 v d p) :
    ∃ A n c, ∃ D : Nat → Dd, v = .slice A n c ∧ n ≤ c ∧ c ≤ maxLen ∧ ∀ i, i < n → DeedAt W A i (D i) := by
  obtain ⟨fuel, y, hf⟩ := reads_arg Tryd.underlying22 hv h
  rcases open_slice Tryd.underlying22 hf with ⟨hcs, _⟩ | ⟨a, len, cap, m, n, D, Pl, hcs, _, hl, hm, hmm, _, hi⟩
  · simp only [List.cons.injEq, and_true] at hcs
    subst hcs
    exact ⟨none, 0, 0, fun _ => ⟨0, 0, 0, ⟨#[]⟩, 0⟩, rfl, Nat.le_refl _, Nat.zero_le _, fun i hi => absurd hi (by omega)⟩
  · simp only [List.cons.injEq, and_true] at hcs
    subst hcs
    have hle : len ≤ m := by rw [hmm]; split <;> omega
    have key : ∀ i, i < len → ∃ d, DeedAt W (some a) i d := by
      intro i hil
      obtain ⟨cs', hc, ht⟩ := hi i (by omega)
      rw [show Tryd.prog.cellsOf 65 = 5 by kernel_rfl] at hc
      obtain ⟨d, rfl⟩ := trod_deed ht
      obtain ⟨_, _, hat⟩ := World.cells?_some hc
      have a0 := hat 0 (by omega)
      have a1 := hat 1 (by omega)
      have a2 := hat 2 (by omega)
      have a3 := hat 3 (by omega)
      have a4 := hat 4 (by omega)
      have hsp : a.spot = none := by
        obtain ⟨cs0, hc0, ht0⟩ := hi 0 (by omega)
        rw [show Tryd.prog.cellsOf 65 = 5 by kernel_rfl] at hc0
        obtain ⟨d0, rfl⟩ := trod_deed ht0
        have := World.cell?_spot (((World.cells?_some hc0).2.2 0 (by omega)).trans rfl)
        simpa [Addr.add] using this
      obtain ⟨b, off, spot⟩ := a
      simp only at hsp
      subst hsp
      rw [Go.WideShapes.add_plain, Go.WideShapes.add_plain] at a0 a1 a2 a3 a4
      exact ⟨d, b, off, rfl, World.block_lt_of_cell? _ _ (a0.trans rfl), a0, a1, a2, a3, a4⟩
    haveI : Nonempty Dd := ⟨⟨0, 0, 0, ⟨#[]⟩, 0⟩⟩
    refine ⟨some a, len, cap, fun i => Classical.epsilon fun d => DeedAt W (some a) i d, rfl, hl, hm, fun i hil => ?_⟩
    exact Classical.epsilon_spec (key i hil)
end

theorem DeedAt.below {w w' : World} {A : Option Addr} {i : Nat} {d : Dd} (h : DeedAt w A i d) (hb : Below w.heap.size w w') : DeedAt w' A i d := by
  obtain ⟨b, o, e, hl, h0, h1, h2, h3, h4⟩ := h
  have k (j : Nat) := hb.cell (p := ⟨b, j, none⟩) hl
  exact ⟨b, o, e, Nat.lt_of_lt_of_le hl hb.size, (k _).trans h0, (k _).trans h1, (k _).trans h2, (k _).trans h3, (k _).trans h4⟩
end Go.Proofs.YtednedklkbjihaaDoor
