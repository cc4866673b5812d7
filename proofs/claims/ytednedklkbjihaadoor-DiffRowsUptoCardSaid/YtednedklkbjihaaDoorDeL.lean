/- diff: deeds that come in, whose texts are small. -/
import Derived.Test.YtednedklkbjihaaDoorGeQ
import Derived.Test.YtednedklkbjihaaDoorRows
namespace Go.Proofs.YtednedklkbjihaaDoor
open Go.ChangeShapes Go.WideShapes Go.ChangeAt Go.RowKit Go.Deep
set_option linter.unusedVariables false
set_option linter.unusedSimpArgs false
set_option maxRecDepth 100000
section
variable {H : Type} {enc : TypeId × Value → H} {W : World} {base : Nat} {spare : Nat → Bool} {held : Bool}
theorem bulk_mem {d : DataW H} : ∀ {l : List (DataW H)}, d ∈ l → Rows.uptoBulk d ≤ Rows.uptoBulkAll l
  | x :: l, h => by
    unfold Rows.uptoBulkAll
    rcases List.mem_cons.1 h with h | h
    · subst h; omega
    · have := bulk_mem h
      omega
theorem bulk_agg {d : DataW H} {l : List (DataW H)} (h : d ∈ l) : Rows.uptoBulk d ≤ Rows.uptoBulk (DataW.agg l) := by
  have := bulk_mem h
  have e : Rows.uptoBulk (DataW.agg l) = Rows.uptoBulkAll l + 1 := by rw [Rows.uptoBulk]
  omega
theorem trod_deedB {fuel : Nat} {cs : List Value} {y : DataW H × List MemPlace} (h : DataW.trod enc Tryd.prog W base spare held fuel 65 cs = some y) :
    ∃ d : Dd, cs = [.int .i64 d.k, .int .i64 d.r, .int .i64 d.c, .string d.t, .int .i64 d.wd] ∧ d.t.size ≤ Rows.uptoBulk y.1 := by
  obtain ⟨d, rfl⟩ := trod_deed h
  refine ⟨d, rfl, ?_⟩
  obtain ⟨xs, n, _, hy, hl, hx, hf⟩ := DataW.trod_struct Tryd.underlying65 h
  have hx4 : xs.length = 4 := hx
  obtain ⟨v3, h3⟩ : ∃ v, xs[3]? = some v := ⟨_, List.getElem?_eq_getElem (by omega)⟩
  have ci : Tryd.prog.cellsOf 3 = 1 := by kernel_rfl
  have cg : Tryd.prog.cellsOf 63 = 2 := by kernel_rfl
  have f3 : DataW.trod enc Tryd.prog W base spare held n 63 (([.int .i64 d.k, .int .i64 d.r, .int .i64 d.c, .string d.t, .int .i64 d.wd].drop 3).take (Tryd.prog.cellsOf 63)) = some v3 := by rw [← h3]; exact hf 3 _ rfl
  rw [cg] at f3
  simp only [List.drop_zero, List.drop_succ_cons, List.take_succ_cons, List.take_zero] at f3
  obtain ⟨ys, n', _, hy3, _, hyl, hg⟩ := DataW.trod_struct Tryd.underlying63 f3
  have hy2 : ys.length = 2 := hyl
  obtain ⟨u0, k0⟩ : ∃ v, ys[0]? = some v := ⟨_, List.getElem?_eq_getElem (by omega)⟩
  have cs1 : Tryd.prog.cellsOf 9 = 1 := by kernel_rfl
  have g0 : DataW.trod enc Tryd.prog W base spare held n' 9 (([.string d.t, .int .i64 d.wd].drop 0).take (Tryd.prog.cellsOf 9)) = some u0 := by rw [← k0]; exact hg 0 _ rfl
  rw [cs1] at g0
  simp only [List.drop_zero, List.take_succ_cons, List.take_zero] at g0
  obtain ⟨t, e3, hu0, _⟩ := DataW.trod_string Tryd.underlying9 g0
  have et : d.t = t := by simpa using e3
  have m0 : u0.1 ∈ ys.map (·.1) := List.mem_map.2 ⟨u0, List.mem_of_getElem? k0, rfl⟩
  have m3 : v3.1 ∈ xs.map (·.1) := List.mem_map.2 ⟨v3, List.mem_of_getElem? h3, rfl⟩
  have b0 := bulk_agg m0
  have b3 := bulk_agg m3
  have e1 : Rows.uptoBulk u0.1 = t.data.toList.length + 1 := by rw [hu0, Rows.uptoBulk]
  have e2 : t.data.toList.length = t.size := by rw [Array.length_toList]; rfl
  rw [hy3] at b3
  rw [hy, et]
  simp only at b0 b3 ⊢
  omega

theorem arg_deedsB {v : Value} {r : Reach} {b0 : Nat} {d : DataW H} {p : List MemPlace} {B : Nat} (hB : Rows.uptoBulk d ≤ B) (hv : Value.okWide Tryd.prog W r b0 22 v) (h : DataW.Trod enc Tryd.prog W base spare held 22 v d p) :
    ∃ A n c, ∃ D : Nat → Dd, v = .slice A n c ∧ n ≤ c ∧ c ≤ maxLen ∧ ∀ i, i < n → DeedAt W A i (D i) ∧ (D i).t.size ≤ B := by
  obtain ⟨a0, n0, c0, rfl⟩ := okWide_slice Tryd.underlying22 hv
  obtain ⟨fuel, hf0⟩ := h
  have hf : DataW.trod enc Tryd.prog W base spare held fuel 22 [.slice a0 n0 c0] = some (d, p) := by simpa [Value.cells] using hf0
  rcases open_slice Tryd.underlying22 hf with ⟨hcs, _⟩ | ⟨a, len, cap, m, n, D, Pl, hcs, _, hl, hm, hmm, hx, hi⟩
  · simp only [List.cons.injEq, and_true] at hcs
    rw [hcs]
    exact ⟨none, 0, 0, fun _ => ⟨0, 0, 0, ⟨#[]⟩, 0⟩, rfl, Nat.le_refl _, Nat.zero_le _, fun i hi => absurd hi (by omega)⟩
  · simp only [List.cons.injEq, and_true] at hcs
    rw [hcs]
    have hle : len ≤ m := by rw [hmm]; split <;> omega
    have hd : d = .slice ((List.range len).map D) ((List.range (m - len)).map fun j => D (len + j)) := (Prod.mk.inj hx).1
    have hbD : ∀ i, i < len → Rows.uptoBulk (D i) ≤ B := by
      intro i hil
      have h1 : D i ∈ (List.range len).map D := List.mem_map.2 ⟨i, List.mem_range.2 hil, rfl⟩
      have h2 := bulk_mem h1
      have e : Rows.uptoBulk d = Rows.uptoBulkAll ((List.range len).map D) + Rows.uptoBulkAll ((List.range (m - len)).map fun j => D (len + j)) + 1 := by rw [hd, Rows.uptoBulk]
      omega
    have key : ∀ i, i < len → ∃ d, DeedAt W (some a) i d ∧ d.t.size ≤ B := by
      intro i hil
      obtain ⟨cs', hc, ht⟩ := hi i (by omega)
      rw [show Tryd.prog.cellsOf 65 = 5 by kernel_rfl] at hc
      obtain ⟨d, rfl, hds⟩ := trod_deedB ht
      obtain ⟨_, _, hat⟩ := World.cells?_some hc
      have a0 := hat 0 (by omega)
      have a1 := hat 1 (by omega)
      have a2 := hat 2 (by omega)
      have a3 := hat 3 (by omega)
      have a4 := hat 4 (by omega)
      have hsp : a.spot = none := by
        obtain ⟨cs0, hc0, ht0⟩ := hi 0 (by omega)
        rw [show Tryd.prog.cellsOf 65 = 5 by kernel_rfl] at hc0
        obtain ⟨d0, rfl⟩ := trod_deed ht0
        have := World.cell?_spot (((World.cells?_some hc0).2.2 0 (by omega)).trans rfl)
        simpa [Addr.add] using this
      obtain ⟨b, off, spot⟩ := a
      simp only at hsp
      subst hsp
      rw [Go.WideShapes.add_plain, Go.WideShapes.add_plain] at a0 a1 a2 a3 a4
      exact ⟨d, ⟨b, off, rfl, World.block_lt_of_cell? _ _ (a0.trans rfl), a0, a1, a2, a3, a4⟩, Nat.le_trans hds (hbD i hil)⟩
    haveI : Nonempty Dd := ⟨⟨0, 0, 0, ⟨#[]⟩, 0⟩⟩
    refine ⟨some a, len, cap, fun i => Classical.epsilon fun d => DeedAt W (some a) i d ∧ d.t.size ≤ B, rfl, hl, hm, fun i hil => ?_⟩
    exact Classical.epsilon_spec (key i hil)

/-- A spot that comes in. -/
theorem arg_spot {v : Value} {r : Reach} {b0 : Nat} {d : DataW H} {p : List MemPlace} (hv : Value.okWide Tryd.prog W r b0 24 v) (h : DataW.Trod enc Tryd.prog W base spare held 24 v d p) : ∃ x y, v = .agg #[.int .i64 x, .int .i64 y] := by
  obtain ⟨cs, rfl, hs⟩ := okWide_struct Tryd.underlying24 hv
  obtain ⟨fuel, hf⟩ := h
  have hf2 : DataW.trod enc Tryd.prog W base spare held fuel 24 cs.toList = some (d, p) := by simpa [Value.cells] using hf
  have hC : Tryd.prog.cellsOf 24 = 2 := by kernel_rfl
  obtain ⟨xs, n, _, _, hl, hx, hg⟩ := DataW.trod_struct Tryd.underlying24 hf2
  rw [hC] at hl
  obtain ⟨l⟩ := cs
  match l, hl with
  | [a, b], _ =>
    have hx2 : xs.length = 2 := hx
    have ci : Tryd.prog.cellsOf 3 = 1 := by kernel_rfl
    obtain ⟨v0, h0⟩ : ∃ v, xs[0]? = some v := ⟨_, List.getElem?_eq_getElem (by omega)⟩
    obtain ⟨v1, h1⟩ : ∃ v, xs[1]? = some v := ⟨_, List.getElem?_eq_getElem (by omega)⟩
    have f0 : DataW.trod enc Tryd.prog W base spare held n 3 (([a, b].drop 0).take (Tryd.prog.cellsOf 3)) = some v0 := by rw [← h0]; exact hg 0 _ rfl
    have f1 : DataW.trod enc Tryd.prog W base spare held n 3 (([a, b].drop 1).take (Tryd.prog.cellsOf 3)) = some v1 := by rw [← h1]; exact hg 1 _ rfl
    rw [ci] at f0 f1
    simp only [List.drop_zero, List.drop_succ_cons, List.take_succ_cons, List.take_zero] at f0 f1
    obtain ⟨x, e0, _⟩ := DataW.trod_int Tryd.underlying3 f0
    obtain ⟨y, e1, _⟩ := DataW.trod_int Tryd.underlying3 f1
    injection e0 with e0
    injection e1 with e1
    exact ⟨x, y, by rw [e0, e1]⟩
end
end Go.Proofs.YtednedklkbjihaaDoor
