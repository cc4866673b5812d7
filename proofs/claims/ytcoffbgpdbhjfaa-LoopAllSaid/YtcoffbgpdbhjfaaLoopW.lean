/- loop: events that come in. -/
import Derived.Test.YtcoffbgpdbhjfaaLoopF
import Derived.Test.YtcoffbgpdbhjfaaArgS
namespace Go.Proofs.Ytcoffbgpdbhjfaa
open Go.ChangeShapes Go.WideShapes Go.ChangeAt Go.RowKit Go.Deep
set_option linter.unusedVariables false
set_option linter.unusedSimpArgs false
section
variable {H : Type} {enc : TypeId × Value → H} {W : World} {base : Nat} {spare : Nat → Bool} {held : Bool}
/-- The fields of a struct that came in by value. -/
theorem reads_agg {P : Program} {T : TypeId} {fs : Array Field} {cs : List Value} (hT : P.underlying T = some (.struct fs)) (hone : oneCellFields P fs = true) (hC : P.cellsOf T = fs.size) {fuel : Nat} {y : DataW H × List MemPlace} (ht : DataW.trod enc P W base spare held fuel T cs = some y)
    (j : Nat) (f : Field) (hj : fs[j]? = some f) : ∃ u, cs[j]? = some u ∧ Reads enc P W base spare held f.type u := by
  obtain ⟨ys, n', _, _, hlen, hyl, hff⟩ := DataW.trod_struct hT ht
  obtain ⟨ho, hk⟩ := hone_of hone j f hj
  have hjl : j < fs.size := (Array.getElem?_eq_some_iff.1 hj).1
  have h1 := hff j f hj
  have e1 : (cs.drop f.offset).take (P.cellsOf f.type) = [cs[j]'(by omega)] := by
    rw [ho, hk, List.drop_eq_getElem_cons (by omega)]
    rfl
  rw [e1] at h1
  exact ⟨cs[j]'(by omega), List.getElem?_eq_getElem (by omega), n', _, h1.trans (List.getElem?_eq_getElem (by omega))⟩

/-- An event's four cells. -/
theorem trod_event {fuel : Nat} {cs : List Value} {y : DataW H × List MemPlace} (ht : DataW.trod enc Try.prog W base spare held fuel 23 cs = some y) : ∃ x : Evt, cs[0]? = some (.int .i64 x.kind) ∧ cs[1]? = some (.int .u8 x.byte) ∧ cs[2]? = some (.int .i64 x.rows) ∧ cs[3]? = some (.int .i64 x.cols) := by
  have R := fun j f hj => reads_agg Try.underlying23 (by kernel_rfl) (by kernel_rfl) ht j f hj
  obtain ⟨u0, g0, r0⟩ := R 0 _ rfl
  obtain ⟨u1, g1, r1⟩ := R 1 _ rfl
  obtain ⟨u2, g2, r2⟩ := R 2 _ rfl
  obtain ⟨u3, g3, r3⟩ := R 3 _ rfl
  obtain ⟨k, rfl, _⟩ := reads_int Try.underlying3 r0
  obtain ⟨b, rfl, _⟩ := reads_int Try.underlying5 r1
  obtain ⟨r, rfl, _⟩ := reads_int Try.underlying3 r2
  obtain ⟨c, rfl, _⟩ := reads_int Try.underlying3 r3
  exact ⟨⟨k, b, r, c⟩, g0, g1, g2, g3⟩

theorem arg_event {r : Reach} {b0 : Nat} {v : Value} {d : DataW H} {p : List MemPlace} (hv : Value.okWide Try.prog W r b0 23 v) (h : DataW.Trod enc Try.prog W base spare held 23 v d p) : ∃ x : Evt, v = ev x := by
  obtain ⟨cs, rfl, hs⟩ := okWide_struct Try.underlying23 hv
  obtain ⟨fuel, hf⟩ := h
  have hf2 : DataW.trod enc Try.prog W base spare held fuel 23 cs.toList = some (d, p) := by simpa [Value.cells] using hf
  have hC : Try.prog.cellsOf 23 = 4 := by kernel_rfl
  obtain ⟨x, g0, g1, g2, g3⟩ := trod_event hf2
  refine ⟨x, ?_⟩
  rw [hC] at hs
  congr 1
  apply Array.ext'
  apply List.ext_getElem?
  intro i
  have hl : cs.toList.length = 4 := by simpa using hs
  match i with
  | 0 => exact g0
  | 1 => exact g1
  | 2 => exact g2
  | 3 => exact g3
  | i + 4 => rw [List.getElem?_eq_none (by omega), List.getElem?_eq_none (by simp)]

/-- A slice of elements of four cells, each of which reads as an event. -/
theorem arg_four {T E : TypeId} (hT : Try.prog.underlying T = some (.slice E)) (hC : Try.prog.cellsOf E = 4)
    (hE : ∀ (fuel : Nat) (cs : List Value) (y : DataW H × List MemPlace), DataW.trod enc Try.prog W base spare held fuel E cs = some y → ∃ x : Evt, cs[0]? = some (.int .i64 x.kind) ∧ cs[1]? = some (.int .u8 x.byte) ∧ cs[2]? = some (.int .i64 x.rows) ∧ cs[3]? = some (.int .i64 x.cols))
    {r : Reach} {b0 : Nat} {v : Value} {d : DataW H} {p : List MemPlace} (hv : Value.okWide Try.prog W r b0 T v) (h : DataW.Trod enc Try.prog W base spare held T v d p) :
    ∃ A n c L, v = .slice A n c ∧ L.length = n ∧ EvRd W A L ∧ n ≤ c ∧ c ≤ maxLen ∧ (A = none → n = 0 ∧ c = 0) := by
  obtain ⟨a0, n0, c0, rfl⟩ := okWide_slice hT hv
  obtain ⟨fuel, hf⟩ := h
  have hf2 : DataW.trod enc Try.prog W base spare held fuel T [.slice a0 n0 c0] = some (d, p) := by simpa [Value.cells] using hf
  rcases open_slice hT hf2 with ⟨hcs, _⟩ | ⟨a, len, cap, m, n, D, Pl, hcs, _, hl, hm, hmm, _, hi⟩
  · simp only [List.cons.injEq, and_true] at hcs
    rw [hcs]
    exact ⟨none, 0, 0, [], rfl, rfl, fun j hj => absurd hj (by simp), Nat.le_refl _, Nat.zero_le _, fun _ => ⟨rfl, rfl⟩⟩
  · simp only [List.cons.injEq, and_true] at hcs
    rw [hcs]
    have hle : len ≤ m := by rw [hmm]; split <;> omega
    have hsp (i : Nat) (hil : i < len) : a.spot = none := by
      obtain ⟨cs0, hc0, _⟩ := hi 0 (by omega)
      rw [hC] at hc0
      obtain ⟨_, hcl0, hat0⟩ := World.cells?_some hc0
      have h00 := hat0 0 (by omega)
      rw [List.getElem?_eq_getElem (by omega)] at h00
      have := World.cell?_spot h00
      simpa [Addr.add] using this
    obtain ⟨f, hf⟩ := choose_lt (n := len) (p := fun i (x : Evt) => ∃ b o, some a = some (⟨b, o, none⟩ : Addr) ∧ b < W.heap.size ∧
      W.cell? ⟨b, o + i * 4, none⟩ = some (.int .i64 x.kind) ∧ W.cell? ⟨b, o + i * 4 + 1, none⟩ = some (.int .u8 x.byte) ∧ W.cell? ⟨b, o + i * 4 + 2, none⟩ = some (.int .i64 x.rows) ∧ W.cell? ⟨b, o + i * 4 + 3, none⟩ = some (.int .i64 x.cols)) fun i hil => by
      obtain ⟨cs', hc, ht⟩ := hi i (by omega)
      rw [hC] at hc
      obtain ⟨_, hcl, hat⟩ := World.cells?_some hc
      obtain ⟨x, g0, g1, g2, g3⟩ := hE _ _ _ ht
      have hs := hsp i hil
      obtain ⟨b, off, spot⟩ := a
      simp only at hs
      subst hs
      have cell (j : Nat) (hj : j < 4) : W.cell? ⟨b, off + i * 4 + j, none⟩ = cs'[j]? := by
        have := hat j hj
        rw [Go.WideShapes.add_plain, Go.WideShapes.add_plain] at this
        exact this
      have c0 := (cell 0 (by decide)).trans g0
      refine ⟨x, b, off, rfl, World.block_lt_of_cell? _ _ c0, c0, (cell 1 (by decide)).trans g1, (cell 2 (by decide)).trans g2, (cell 3 (by decide)).trans g3⟩
    refine ⟨some a, len, cap, (List.range len).map f, rfl, by simp, fun j hj => ?_, hl, hm, fun e => by cases e⟩
    have hj' : j < len := by simpa using hj
    have e : ((List.range len).map f).getD j zeroE = f j := by simp [List.getD, hj']
    rw [e]
    exact hf j hj'
end
end Go.Proofs.Ytcoffbgpdbhjfaa
