/- trie: pieces that come in. -/
import Derived.Test.YtpbdamjpjpchiaaTrC
import Derived.Test.YtpbdamjpjpchiaaArgS
namespace Go.Proofs.Ytpbdamjpjpchiaa
open Go.ChangeShapes Go.WideShapes Go.ChangeAt Go.RowKit Go.Deep
set_option linter.unusedVariables false
set_option linter.unusedSimpArgs false

/-- Pieces that came in. -/
structure PcIn (W : World) (A : Option Addr) (c : Nat) (L : List (Pc Int)) : Prop where
  li : Li 3 encP W (fun _ => True) A L
  le : L.length ≤ c
  mx : c ≤ maxLen
  ok : ∀ x ∈ L, (Lit.int .i64 x.v).wf = true
section
variable {H : Type} {enc : TypeId × Value → H} {W : World} {base : Nat} {spare : Nat → Bool} {held : Bool}
set_option maxRecDepth 100000 in
theorem arg_pieces {v : Value} {r : Reach} {b0 : Nat} {d : DataW H} {p : List MemPlace} (hv : Value.okWide Try.prog W r b0 22 v) (h : DataW.Trod enc Try.prog W base spare held 22 v d p) :
    ∃ A L c, v = .slice A (L : List (Pc Int)).length c ∧ PcIn W A c L := by
  obtain ⟨A, n, c, V, rfl, h0, h1, h2, hV⟩ := reads_structs Try.underlying22 Try.underlying49 (by kernel_rfl) (by kernel_rfl) (reads_arg Try.underlying22 hv h)
  have key : ∀ i, i < n → ∃ x : Pc Int, (Lit.int .i64 x.v).wf = true ∧ ∃ b o, A = some ⟨b, o, none⟩ ∧ b < W.heap.size ∧ ∀ (j : Nat) (u : Value), (encP x)[j]? = some u → W.cell? ⟨b, o + (i * 3 + j), none⟩ = some u := by
    intro i hi
    have f := hV i hi
    obtain ⟨⟨b, o, e, hb, k0⟩, r0⟩ := f 0 _ rfl
    obtain ⟨⟨_, _, e1, _, k1⟩, r1⟩ := f 1 _ rfl
    obtain ⟨⟨_, _, e2, _, k2⟩, r2⟩ := f 2 _ rfl
    rw [e] at e1 e2
    simp only [Option.some.injEq, Addr.mk.injEq, and_true] at e1 e2
    obtain ⟨rfl, rfl⟩ := e1
    obtain ⟨rfl, rfl⟩ := e2
    obtain ⟨x0, y0, z0⟩ := reads_int Try.underlying3 r0
    obtain ⟨x1, y1, z1⟩ := reads_int Try.underlying3 r1
    obtain ⟨x2, y2, z2⟩ := reads_int Try.underlying3 r2
    rw [y0] at k0
    rw [y1] at k1
    rw [y2] at k2
    refine ⟨⟨x0, x1, x2⟩, z2, b, o, e, hb, fun j u hu => ?_⟩
    match j, hu with
    | 0, hu => injection hu with hu; subst hu; exact k0
    | 1, hu => injection hu with hu; subst hu; exact k1
    | 2, hu => injection hu with hu; subst hu; exact k2
    | j + 3, hu => simp [encP] at hu
  haveI : Nonempty (Pc Int) := ⟨⟨0, 0, 0⟩⟩
  let F : Nat → Pc Int := fun i => Classical.epsilon fun x => (Lit.int .i64 x.v).wf = true ∧ ∃ b o, A = some ⟨b, o, none⟩ ∧ b < W.heap.size ∧ ∀ (j : Nat) (u : Value), (encP x)[j]? = some u → W.cell? ⟨b, o + (i * 3 + j), none⟩ = some u
  have hF : ∀ i, i < n → (Lit.int .i64 (F i).v).wf = true ∧ ∃ b o, A = some ⟨b, o, none⟩ ∧ b < W.heap.size ∧ ∀ (j : Nat) (u : Value), (encP (F i))[j]? = some u → W.cell? ⟨b, o + (i * 3 + j), none⟩ = some u := fun i hi => Classical.epsilon_spec (key i hi)
  refine ⟨A, (List.range n).map F, c, by simp, ⟨?_, by simpa using h1, h2, ?_⟩⟩
  · intro j x hj
    have hjn : j < n := by have := (List.getElem?_eq_some_iff.1 hj).1; simpa using this
    simp [hjn] at hj
    subst hj
    obtain ⟨_, b, o, e, hb, hc⟩ := hF j hjn
    exact ⟨b, o, e, hb, trivial, hc⟩
  · intro x hx
    obtain ⟨i, hi, rfl⟩ := List.mem_map.1 hx
    exact (hF i (List.mem_range.1 hi)).1
end
theorem pval_wf {L : List (Pc Int)} {z : Int} (hL : ∀ x ∈ L, (Lit.int .i64 x.v).wf = true) (hz : (Lit.int .i64 z).wf = true) : ∀ r, (Lit.int .i64 (pval L z r)).wf = true := by
  intro r
  unfold pval
  cases h : pget L r with
  | none => exact hz
  | some x =>
    obtain ⟨p, hp, _, _, rfl⟩ := pget_some h
    exact hL p hp
/-- The first few. -/
theorem PcIn.few {W : World} {A : Option Addr} {c : Nat} {L : List (Pc Int)} (h : PcIn W A c L) : PcIn W A c (L.take 30) ∧ (L.take 30).length = min L.length 30 := by
  have hl : (L.take 30).length = min L.length 30 := by rw [List.length_take]; omega
  refine ⟨⟨fun j x hj => ?_, by have := h.le; omega, h.mx, fun x hx => h.ok x (List.mem_of_mem_take hx)⟩, hl⟩
  rw [List.getElem?_take] at hj
  split at hj
  · exact h.li j x hj
  · cases hj
end Go.Proofs.Ytpbdamjpjpchiaa
