/- bind: strokes and owns that come in. -/
import Derived.Test.YtpdjkphjpjbhgaaDoorBindW
import Derived.Test.YtpdjkphjpjbhgaaDoorBindL
namespace Go.Proofs.YtpdjkphjpjbhgaaDoor
open Go.ChangeShapes Go.WideShapes Go.ChangeAt Go.RowKit Go.Deep
set_option linter.unusedVariables false
set_option linter.unusedSimpArgs false
section
variable {H : Type} {enc : TypeId × Value → H} {W : World} {base : Nat} {spare : Nat → Bool} {held : Bool}
theorem trod_stroke {fuel : Nat} {cs : List Value} {y : DataW H × List MemPlace} (ht : DataW.trod enc Tryd.prog W base spare held fuel 31 cs = some y) : ∃ s : Stk, Wf s ∧ cs[0]? = some (.bool s.1) ∧ cs[1]? = some (.int .i64 s.2.1) ∧ cs[2]? = some (.int .i32 s.2.2.1) ∧ cs[3]? = some (.bool s.2.2.2) := by
  have R := fun j f hj => reads_agg Tryd.underlying31 (by kernel_rfl) (by kernel_rfl) ht j f hj
  obtain ⟨u0, g0, r0⟩ := R 0 _ rfl
  obtain ⟨u1, g1, r1⟩ := R 1 _ rfl
  obtain ⟨u2, g2, r2⟩ := R 2 _ rfl
  obtain ⟨u3, g3, r3⟩ := R 3 _ rfl
  obtain ⟨p, rfl⟩ := reads_bool Tryd.underlying4 r0
  obtain ⟨k, rfl, h1⟩ := reads_int Tryd.underlying3 r1
  obtain ⟨x, rfl, h2⟩ := reads_int Tryd.underlying21 r2
  obtain ⟨m, rfl⟩ := reads_bool Tryd.underlying4 r3
  exact ⟨(p, k, x, m), ⟨h1, h2⟩, g0, g1, g2, g3⟩

theorem arg_stroke {r : Reach} {b0 : Nat} {v : Value} {d : DataW H} {p : List MemPlace} (hv : Value.okWide Tryd.prog W r b0 31 v) (h : DataW.Trod enc Tryd.prog W base spare held 31 v d p) : ∃ s : Stk, Wf s ∧ v = sv s := by
  obtain ⟨cs, rfl, hs⟩ := okWide_struct Tryd.underlying31 hv
  obtain ⟨fuel, hf⟩ := h
  have hf2 : DataW.trod enc Tryd.prog W base spare held fuel 31 cs.toList = some (d, p) := by simpa [Value.cells] using hf
  have hC : Tryd.prog.cellsOf 31 = 4 := by kernel_rfl
  obtain ⟨s, hw, g0, g1, g2, g3⟩ := trod_stroke hf2
  refine ⟨s, hw, ?_⟩
  rw [hC] at hs
  congr 1
  apply Array.ext'
  apply List.ext_getElem?
  intro i
  have hl : cs.toList.length = 4 := by simpa using hs
  match i with
  | 0 => exact g0
  | 1 => exact g1
  | 2 => exact g2
  | 3 => exact g3
  | i + 4 => rw [List.getElem?_eq_none (by omega), List.getElem?_eq_none (by simp)]

theorem trod_own {fuel : Nat} {cs : List Value} {y : DataW H × List MemPlace} (ht : DataW.trod enc Tryd.prog W base spare held fuel 38 cs = some y) : ∃ (s : Stk) (c : Int), Wf s ∧ (Lit.int .i64 c).wf = true ∧ cs[0]? = some (.bool s.1) ∧ cs[1]? = some (.int .i64 s.2.1) ∧ cs[2]? = some (.int .i32 s.2.2.1) ∧ cs[3]? = some (.bool s.2.2.2) ∧ cs[4]? = some (.int .i64 c) := by
  obtain ⟨ys, n', _, _, hlen, hyl, hff⟩ := DataW.trod_struct Tryd.underlying38 ht
  have hC : Tryd.prog.cellsOf 31 = 4 := by kernel_rfl
  have hC1 : Tryd.prog.cellsOf 3 = 1 := by kernel_rfl
  have h1 : DataW.trod enc Tryd.prog W base spare held n' 31 ((cs.drop 0).take (Tryd.prog.cellsOf 31)) = ys[0]? := hff 0 _ rfl
  have h2 : DataW.trod enc Tryd.prog W base spare held n' 3 ((cs.drop 4).take (Tryd.prog.cellsOf 3)) = ys[1]? := hff 1 _ rfl
  rw [hC, List.drop_zero] at h1
  rw [hC1] at h2
  have hy2 : ys.length = 2 := by rw [hyl]; rfl
  rw [List.getElem?_eq_getElem (by omega)] at h1 h2
  obtain ⟨s, hw, g0, g1, g2, g3⟩ := trod_stroke h1
  obtain ⟨c, hc, _, hcw⟩ := DataW.trod_int Tryd.underlying3 h2
  refine ⟨s, c, hw, hcw, ?_, ?_, ?_, ?_, ?_⟩
  · simpa [List.getElem?_take] using g0
  · simpa [List.getElem?_take] using g1
  · simpa [List.getElem?_take] using g2
  · simpa [List.getElem?_take] using g3
  · have h5 : ((cs.drop 4).take 1)[0]? = some (Value.int .i64 c) := by rw [hc]; rfl
    simpa [List.getElem?_take, List.getElem?_drop] using h5

theorem arg_owns {r : Reach} {b0 : Nat} {v : Value} {d : DataW H} {p : List MemPlace} (hv : Value.okWide Tryd.prog W r b0 30 v) (h : DataW.Trod enc Tryd.prog W base spare held 30 v d p) :
    ∃ A n c L, v = .slice A n c ∧ L.length = n ∧ OwnRd W A L ∧ n ≤ c := by
  have hT := Tryd.underlying30
  have hC : Tryd.prog.cellsOf 38 = 5 := by kernel_rfl
  obtain ⟨a0, n0, c0, rfl⟩ := okWide_slice hT hv
  obtain ⟨fuel, hf⟩ := h
  have hf2 : DataW.trod enc Tryd.prog W base spare held fuel 30 [.slice a0 n0 c0] = some (d, p) := by simpa [Value.cells] using hf
  rcases open_slice hT hf2 with ⟨hcs, _⟩ | ⟨a, len, cap, m, n, D, Pl, hcs, _, hl, hm, hmm, _, hi⟩
  · simp only [List.cons.injEq, and_true] at hcs
    rw [hcs]
    exact ⟨none, 0, 0, [], rfl, rfl, fun j hj => absurd hj (by simp), Nat.le_refl _⟩
  · simp only [List.cons.injEq, and_true] at hcs
    rw [hcs]
    have hle : len ≤ m := by rw [hmm]; split <;> omega
    have hsp (i : Nat) (hil : i < len) : a.spot = none := by
      obtain ⟨cs0, hc0, _⟩ := hi 0 (by omega)
      rw [hC] at hc0
      obtain ⟨_, hcl0, hat0⟩ := World.cells?_some hc0
      have h00 := hat0 0 (by omega)
      rw [List.getElem?_eq_getElem (by omega)] at h00
      have := World.cell?_spot h00
      simpa [Addr.add] using this
    obtain ⟨f, hf⟩ := choose_lt (n := len) (p := fun i (x : Stk × Int) => ∃ b o, some a = some (⟨b, o, none⟩ : Addr) ∧ Wf x.1 ∧ (Lit.int .i64 x.2).wf = true ∧
      W.cell? ⟨b, o + i * 5, none⟩ = some (.bool x.1.1) ∧ W.cell? ⟨b, o + i * 5 + 1, none⟩ = some (.int .i64 x.1.2.1) ∧ W.cell? ⟨b, o + i * 5 + 2, none⟩ = some (.int .i32 x.1.2.2.1) ∧ W.cell? ⟨b, o + i * 5 + 3, none⟩ = some (.bool x.1.2.2.2) ∧ W.cell? ⟨b, o + i * 5 + 4, none⟩ = some (.int .i64 x.2)) fun i hil => by
      obtain ⟨cs', hc, ht⟩ := hi i (by omega)
      rw [hC] at hc
      obtain ⟨_, hcl, hat⟩ := World.cells?_some hc
      obtain ⟨x, cm, hw, hcw, g0, g1, g2, g3, g4⟩ := trod_own ht
      have hs := hsp i hil
      obtain ⟨b, off, spot⟩ := a
      simp only at hs
      subst hs
      have cell (j : Nat) (hj : j < 5) : W.cell? ⟨b, off + i * 5 + j, none⟩ = cs'[j]? := by
        have := hat j hj
        rw [Go.WideShapes.add_plain, Go.WideShapes.add_plain] at this
        exact this
      exact ⟨(x, cm), b, off, rfl, hw, hcw, (cell 0 (by decide)).trans g0, (cell 1 (by decide)).trans g1, (cell 2 (by decide)).trans g2, (cell 3 (by decide)).trans g3, (cell 4 (by decide)).trans g4⟩
    refine ⟨some a, len, cap, (List.range len).map f, rfl, by simp, fun j hj => ?_, hl⟩
    have hj' : j < len := by simpa using hj
    obtain ⟨b, o, e, hw, hcw, c0, c1, c2, c3, c4⟩ := hf j hj'
    exact ⟨b, o, (f j).1, (f j).2, e, by simp [hj'], hw, hcw, c0, c1, c2, c3, c4⟩
end
end Go.Proofs.YtpdjkphjpjbhgaaDoor
