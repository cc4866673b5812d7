/- macro: keys that come in. -/
import Derived.Test.YtgdfcojgifgjcaaMcT
import Derived.Test.YtgdfcojgifgjcaaTxtA
namespace Go.Proofs.Ytgdfcojgifgjcaa
open Go.ChangeShapes Go.WideShapes Go.ChangeAt Go.RowKit Go.Deep
set_option linter.unusedVariables false
set_option linter.unusedSimpArgs false
set_option maxRecDepth 100000

section
variable {H : Type} {enc : TypeId × Value → H} {W : World} {base : Nat} {spare : Nat → Bool} {held : Bool}

theorem four {cs : List Value} (h : cs.length = 4) : ∃ a b c d, cs = [a, b, c, d] := by
  match cs, h with
  | [a, b, c, d], _ => exact ⟨a, b, c, d, rfl⟩
/-- A key as it lies, and as it reads. -/
def KeyIs (W : World) (x : Kp) (y : Ky) : Prop := x.k = y.k ∧ x.r = y.r ∧ x.m = y.m ∧ Txt W (.slice x.A x.n x.c) y.t
theorem trod_key {fuel : Nat} {cs : List Value} {y : DataW H × List MemPlace} (h : DataW.trod enc Try.prog W base spare held fuel 30 cs = some y) :
    ∃ (x : Kp) (z : Ky), cs = encK x ∧ KeyIs W x z := by
  obtain ⟨xs, n, _, _, hl, hx, hf⟩ := DataW.trod_struct Try.underlying30 h
  rw [show Try.prog.cellsOf 30 = 4 by kernel_rfl] at hl
  obtain ⟨a, b, c, d, rfl⟩ := four hl
  have hx4 : xs.length = 4 := hx
  have g (j : Nat) (hj : j < 4) : ∃ v, xs[j]? = some v := ⟨_, List.getElem?_eq_getElem (by omega)⟩
  obtain ⟨v0, h0⟩ := g 0 (by omega)
  obtain ⟨v1, h1⟩ := g 1 (by omega)
  obtain ⟨v2, h2⟩ := g 2 (by omega)
  obtain ⟨v3, h3⟩ := g 3 (by omega)
  have ci : Try.prog.cellsOf 3 = 1 := by kernel_rfl
  have cr : Try.prog.cellsOf 21 = 1 := by kernel_rfl
  have cb : Try.prog.cellsOf 4 = 1 := by kernel_rfl
  have cs1 : Try.prog.cellsOf 28 = 1 := by kernel_rfl
  have f0 : DataW.trod enc Try.prog W base spare held n 3 (([a, b, c, d].drop 0).take (Try.prog.cellsOf 3)) = some v0 := by rw [← h0]; exact hf 0 _ rfl
  have f1 : DataW.trod enc Try.prog W base spare held n 21 (([a, b, c, d].drop 1).take (Try.prog.cellsOf 21)) = some v1 := by rw [← h1]; exact hf 1 _ rfl
  have f2 : DataW.trod enc Try.prog W base spare held n 4 (([a, b, c, d].drop 2).take (Try.prog.cellsOf 4)) = some v2 := by rw [← h2]; exact hf 2 _ rfl
  have f3 : DataW.trod enc Try.prog W base spare held n 28 (([a, b, c, d].drop 3).take (Try.prog.cellsOf 28)) = some v3 := by rw [← h3]; exact hf 3 _ rfl
  rw [ci] at f0
  rw [cr] at f1
  rw [cb] at f2
  rw [cs1] at f3
  simp only [List.drop_zero, List.drop_succ_cons, List.take_succ_cons, List.take_zero] at f0 f1 f2 f3
  obtain ⟨k, e0, _⟩ := DataW.trod_int Try.underlying3 f0
  obtain ⟨r, e1, _⟩ := DataW.trod_int Try.underlying21 f1
  obtain ⟨m, e2, _⟩ := DataW.trod_bool Try.underlying4 f2
  obtain ⟨l, hl, _⟩ := reads_txt (v := d) ⟨n, _, f3⟩
  obtain ⟨A1, c1, rfl, _⟩ := hl.is
  injection e0 with e0
  injection e1 with e1
  injection e2 with e2
  exact ⟨⟨k, r, m, A1, l.length, c1⟩, ⟨k, r, m, l⟩, by rw [e0, e1, e2]; rfl, rfl, rfl, rfl, hl⟩

theorem arg_keys {v : Value} {r : Reach} {b0 : Nat} {d : DataW H} {p : List MemPlace} (hv : Value.okWide Try.prog W r b0 34 v) (h : DataW.Trod enc Try.prog W base spare held 34 v d p) :
    ∃ ks : List Ky, KyV W v ks := by
  obtain ⟨fuel, y, hf⟩ := reads_arg Try.underlying34 hv h
  rcases open_slice Try.underlying34 hf with ⟨hcs, _⟩ | ⟨a, len, cap, m, n, D, Pl, hcs, _, hl, hm, hmm, _, hi⟩
  · simp only [List.cons.injEq, and_true] at hcs
    subst hcs
    exact ⟨[], kyS_nil _ _⟩
  · simp only [List.cons.injEq, and_true] at hcs
    subst hcs
    have hle : len ≤ m := by rw [hmm]; split <;> omega
    have key : ∀ i, i < len → ∃ z : Kp × Ky, KeyIs W z.1 z.2 ∧ ∃ b o, a = ⟨b, o, none⟩ ∧ b < W.heap.size ∧ ∀ (j : Nat) (u : Value), (encK z.1)[j]? = some u → W.cell? ⟨b, o + (i * 4 + j), none⟩ = some u := by
      intro i hil
      obtain ⟨cs', hc, ht⟩ := hi i (by omega)
      rw [show Try.prog.cellsOf 30 = 4 by kernel_rfl] at hc
      obtain ⟨x, z, rfl, hd⟩ := trod_key ht
      obtain ⟨_, _, hat⟩ := World.cells?_some hc
      have hsp : a.spot = none := by
        obtain ⟨cs0, hc0, ht0⟩ := hi 0 (by omega)
        rw [show Try.prog.cellsOf 30 = 4 by kernel_rfl] at hc0
        obtain ⟨x0, z0, rfl, _⟩ := trod_key ht0
        have := World.cell?_spot (((World.cells?_some hc0).2.2 0 (by omega)).trans rfl)
        simpa [Addr.add] using this
      obtain ⟨b, off, spot⟩ := a
      simp only at hsp
      subst hsp
      have hcell : ∀ (j : Nat) (u : Value), (encK x)[j]? = some u → W.cell? ⟨b, off + (i * 4 + j), none⟩ = some u := fun j u hu => by
        have hj : j < 4 := (List.getElem?_eq_some_iff.1 hu).1
        have h1 := hat j (by omega)
        rw [Go.WideShapes.add_plain, Go.WideShapes.add_plain] at h1
        rw [← Nat.add_assoc, h1]
        exact hu
      exact ⟨⟨x, z⟩, hd, b, off, rfl, World.block_lt_of_cell? _ _ (hcell 0 _ rfl), hcell⟩
    haveI : Nonempty (Kp × Ky) := ⟨⟨⟨0, 0, false, none, 0, 0⟩, ⟨0, 0, false, []⟩⟩⟩
    obtain ⟨G, hG⟩ : ∃ G : Nat → Kp × Ky, ∀ i, i < len → KeyIs W (G i).1 (G i).2 ∧ ∃ b o, a = ⟨b, o, none⟩ ∧ b < W.heap.size ∧ ∀ (j : Nat) (u : Value), (encK (G i).1)[j]? = some u → W.cell? ⟨b, o + (i * 4 + j), none⟩ = some u :=
      ⟨fun i => Classical.epsilon fun z => KeyIs W z.1 z.2 ∧ ∃ b o, a = ⟨b, o, none⟩ ∧ b < W.heap.size ∧ ∀ (j : Nat) (u : Value), (encK z.1)[j]? = some u → W.cell? ⟨b, o + (i * 4 + j), none⟩ = some u, fun i hil => Classical.epsilon_spec (key i hil)⟩
    have hget : ∀ {α : Type} (f : Kp × Ky → α) (j : Nat) (x : α), ((List.range len).map fun i => f (G i))[j]? = some x → j < len ∧ x = f (G j) := fun f j x hx => by
      obtain ⟨hj, rfl⟩ := List.getElem?_eq_some_iff.1 hx
      simp at hj
      exact ⟨hj, by simp⟩
    refine ⟨(List.range len).map fun i => (G i).2, (List.range len).map fun i => (G i).1, ⟨some a, cap, by simp, fun j x hx => ?_, (fun h => by cases h), by simpa using hl, hm⟩, by simp, fun j x hx => ?_⟩
    · obtain ⟨hj, rfl⟩ := hget Prod.fst j x hx
      obtain ⟨_, b, o, rfl, hb, hc⟩ := hG j hj
      exact ⟨b, o, rfl, hb, trivial, hc⟩
    · obtain ⟨hj, rfl⟩ := hget Prod.fst j x hx
      obtain ⟨⟨k1, k2, k3, k4⟩, _⟩ := hG j hj
      exact ⟨(G j).2, by simp [hj], k1, k2, k3, k4⟩
end
end Go.Proofs.Ytgdfcojgifgjcaa
