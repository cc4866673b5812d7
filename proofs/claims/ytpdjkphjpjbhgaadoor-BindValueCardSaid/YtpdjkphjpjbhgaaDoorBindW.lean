/- bind: a key that comes in; the table that is laid. -/
import Derived.Test.YtpdjkphjpjbhgaaDoorBindC
import Derived.Test.YtpdjkphjpjbhgaaDoorArgS
import Derived.LaidMore
import Derived.Lib.LaidTab
namespace Go.Proofs.YtpdjkphjpjbhgaaDoor
open Go.ChangeShapes Go.WideShapes Go.ChangeAt Go.RowKit Go.Deep
set_option linter.unusedVariables false
set_option linter.unusedSimpArgs false
section
variable {H : Type} {enc : TypeId × Value → H} {W : World} {base : Nat} {spare : Nat → Bool} {held : Bool}
/-- The fields of a struct that came in by value. -/
theorem reads_agg {P : Program} {T : TypeId} {fs : Array Field} {cs : List Value} (hT : P.underlying T = some (.struct fs)) (hone : oneCellFields P fs = true) (hC : P.cellsOf T = fs.size) {fuel : Nat} {y : DataW H × List MemPlace} (ht : DataW.trod enc P W base spare held fuel T cs = some y)
    (j : Nat) (f : Field) (hj : fs[j]? = some f) : ∃ u, cs[j]? = some u ∧ Reads enc P W base spare held f.type u := by
  obtain ⟨ys, n', _, _, hlen, hyl, hff⟩ := DataW.trod_struct hT ht
  obtain ⟨ho, hk⟩ := hone_of hone j f hj
  have hjl : j < fs.size := (Array.getElem?_eq_some_iff.1 hj).1
  have h1 := hff j f hj
  have e1 : (cs.drop f.offset).take (P.cellsOf f.type) = [cs[j]'(by omega)] := by
    rw [ho, hk, List.drop_eq_getElem_cons (by omega)]
    rfl
  rw [e1] at h1
  exact ⟨cs[j]'(by omega), List.getElem?_eq_getElem (by omega), n', _, h1.trans (List.getElem?_eq_getElem (by omega))⟩


theorem reads_bool {P : Program} {T : TypeId} {v : Value} (hT : P.underlying T = some .bool) (h : Reads enc P W base spare held T v) : ∃ b, v = .bool b := by
  obtain ⟨fuel, y, hf⟩ := h
  obtain ⟨x, h1, _⟩ := DataW.trod_bool hT hf
  simp only [List.cons.injEq, and_true] at h1
  exact ⟨x, h1⟩

theorem arg_key {r : Reach} {b0 : Nat} {v : Value} {d : DataW H} {p : List MemPlace} (hv : Value.okWide Tryd.prog W r b0 24 v) (h : DataW.Trod enc Tryd.prog W base spare held 24 v d p) : ∃ k r m t, v = key k r m t := by
  obtain ⟨cs, rfl, hs⟩ := okWide_struct Tryd.underlying24 hv
  obtain ⟨fuel, hf⟩ := h
  have hf2 : DataW.trod enc Tryd.prog W base spare held fuel 24 cs.toList = some (d, p) := by simpa [Value.cells] using hf
  have hC : Tryd.prog.cellsOf 24 = 4 := by kernel_rfl
  have R := fun j f hj => reads_agg Tryd.underlying24 (by kernel_rfl) (by kernel_rfl) hf2 j f hj
  obtain ⟨u0, g0, r0⟩ := R 0 _ rfl
  obtain ⟨u1, g1, r1⟩ := R 1 _ rfl
  obtain ⟨u2, g2, r2⟩ := R 2 _ rfl
  obtain ⟨u3, g3, r3⟩ := R 3 _ rfl
  obtain ⟨k, rfl, _⟩ := reads_int Tryd.underlying3 r0
  obtain ⟨x, rfl, _⟩ := reads_int Tryd.underlying21 r1
  obtain ⟨m, rfl⟩ := reads_bool Tryd.underlying4 r2
  refine ⟨k, x, m, u3, ?_⟩
  rw [hC] at hs
  congr 1
  apply Array.ext'
  apply List.ext_getElem?
  intro i
  have hl : cs.toList.length = 4 := by simpa using hs
  match i with
  | 0 => exact g0
  | 1 => exact g1
  | 2 => exact g2
  | 3 => exact g3
  | i + 4 => rw [List.getElem?_eq_none (by omega), List.getElem?_eq_none (by simp)]
end

/-- The table of the controls. -/
abbrev tabV : List Int := [17, 7, 4, 0, 9, 8, 3, 26, 10, 0, 2, 13, 27, 2, 23, 0, 22, 28, 24, 25, 31, 14, 0, 15, 33, 19, 0, 0, 0, 0, 0, 21]
abbrev laidL : List (String × DataW Unit) := [("typebar/bind.controls", Rows.laid_typebar_bind_controls)]
theorem door_met (os : Os) (args : Array Value) : laidMetH Tryd.prog laidL ((World.doorLaid Tryd.prog 14 os).forCall (fun _ _ => 0) ⟨#[], args, []⟩).memory :=
  laidMetH_of_parts3 (fuel := 8) (laidMet_of_run' 8 (by kernel_rfl) (by kernel_rfl)) (by kernel_rfl) (by kernel_rfl)
theorem of_laid {W : World} (h : laidMetH Tryd.prog laidL W) (i : Nat) (hi : i < 32) : W.cell? ⟨0, i, none⟩ = some (.int .i64 (tabV.getD i 0)) := by
  rw [MakeChecks.laidMetH_plain _ _ _ (by kernel_rfl)] at h
  have hT : Lib.TabIs Tryd.prog W "typebar/bind.controls" .i64 tabV := Lib.tabIs_of_head (g := 0) (t := 48) (e := 3) (n := 32) (rest := []) (by kernel_rfl) (by kernel_rfl) Tryd.underlying48 Tryd.underlying3 (by kernel_rfl) (by kernel_rfl) h
  exact hT.cell (by kernel_rfl) i (by simpa using hi)
end Go.Proofs.YtpdjkphjpjbhgaaDoor
