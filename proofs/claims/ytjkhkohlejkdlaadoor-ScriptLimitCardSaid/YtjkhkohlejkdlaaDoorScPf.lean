/- script: events that come in. -/
import Derived.Test.YtjkhkohlejkdlaaDoorScPd
import Derived.Test.YtjkhkohlejkdlaaDoorScPe
import Derived.Test.YtjkhkohlejkdlaaDoorArgS
namespace Go.Proofs.YtjkhkohlejkdlaaDoor
open Go.ChangeShapes Go.WideShapes Go.ChangeAt Go.RowKit Go.Deep
set_option linter.unusedVariables false
set_option linter.unusedSimpArgs false

/-- What came in. -/
structure EvIn (W : World) (A : Option Addr) (c : Nat) (L : List Evt) : Prop where
  li : LiV 4 encE W (fun _ => True) (.slice A L.length c) L
  byt : ∀ x ∈ L, Byt x
section
variable {H : Type} {enc : TypeId × Value → H} {W : World} {base : Nat} {spare : Nat → Bool} {held : Bool}
set_option maxRecDepth 100000 in
theorem arg_evs {v : Value} {r : Reach} {b0 : Nat} {d : DataW H} {p : List MemPlace} (hv : Value.okWide Tryd.prog W r b0 22 v) (h : DataW.Trod enc Tryd.prog W base spare held 22 v d p) :
    ∃ A L c, v = .slice A (L : List Evt).length c ∧ EvIn W A c L := by
  obtain ⟨A, n, c, V, rfl, h0, h1, h2, hV⟩ := reads_structs Tryd.underlying22 Tryd.underlying40 (by kernel_rfl) (by kernel_rfl) (reads_arg Tryd.underlying22 hv h)
  have key : ∀ i, i < n → ∃ x : Evt, Byt x ∧ ∃ b o, A = some ⟨b, o, none⟩ ∧ b < W.heap.size ∧ ∀ (j : Nat) (u : Value), (encE x)[j]? = some u → W.cell? ⟨b, o + (i * 4 + j), none⟩ = some u := by
    intro i hi
    have f := hV i hi
    obtain ⟨⟨b, o, e, hb, k0⟩, r0⟩ := f 0 _ rfl
    obtain ⟨⟨_, _, e1, _, k1⟩, r1⟩ := f 1 _ rfl
    obtain ⟨⟨_, _, e2, _, k2⟩, r2⟩ := f 2 _ rfl
    obtain ⟨⟨_, _, e3, _, k3⟩, r3⟩ := f 3 _ rfl
    rw [e] at e1 e2 e3
    simp only [Option.some.injEq, Addr.mk.injEq, and_true] at e1 e2 e3
    obtain ⟨rfl, rfl⟩ := e1
    obtain ⟨rfl, rfl⟩ := e2
    obtain ⟨rfl, rfl⟩ := e3
    obtain ⟨x0, y0, z0⟩ := reads_int Tryd.underlying3 r0
    obtain ⟨x1, y1, z1⟩ := reads_int Tryd.underlying5 r1
    obtain ⟨x2, y2, z2⟩ := reads_int Tryd.underlying3 r2
    obtain ⟨x3, y3, z3⟩ := reads_int Tryd.underlying3 r3
    rw [y0] at k0
    rw [y1] at k1
    rw [y2] at k2
    rw [y3] at k3
    have hb8 := wf_u8 z1
    refine ⟨⟨x0, x1, x2, x3⟩, ⟨hb8.1, by show x1 < 256; omega⟩, b, o, e, hb, fun j u hu => ?_⟩
    match j, hu with
    | 0, hu => injection hu with hu; subst hu; exact k0
    | 1, hu => injection hu with hu; subst hu; exact k1
    | 2, hu => injection hu with hu; subst hu; exact k2
    | 3, hu => injection hu with hu; subst hu; exact k3
    | j + 4, hu => simp [encE] at hu
  haveI : Nonempty Evt := ⟨⟨0, 0, 0, 0⟩⟩
  let F : Nat → Evt := fun i => Classical.epsilon fun x => Byt x ∧ ∃ b o, A = some ⟨b, o, none⟩ ∧ b < W.heap.size ∧ ∀ (j : Nat) (u : Value), (encE x)[j]? = some u → W.cell? ⟨b, o + (i * 4 + j), none⟩ = some u
  have hF : ∀ i, i < n → Byt (F i) ∧ ∃ b o, A = some ⟨b, o, none⟩ ∧ b < W.heap.size ∧ ∀ (j : Nat) (u : Value), (encE (F i))[j]? = some u → W.cell? ⟨b, o + (i * 4 + j), none⟩ = some u := fun i hi => Classical.epsilon_spec (key i hi)
  have hlen : ((List.range n).map F).length = n := by simp
  refine ⟨A, (List.range n).map F, c, by rw [hlen], ⟨⟨A, c, rfl, ?_, fun e => by rw [hlen]; exact h0 e, by rw [hlen]; exact h1, h2⟩, ?_⟩⟩
  · intro j x hj
    have hjn : j < n := by have := (List.getElem?_eq_some_iff.1 hj).1; simpa using this
    simp [hjn] at hj
    subst hj
    obtain ⟨_, b, o, e, hb, hc⟩ := hF j hjn
    exact ⟨b, o, e, hb, trivial, hc⟩
  · intro x hx
    obtain ⟨i, hi, rfl⟩ := List.mem_map.1 hx
    exact (hF i (List.mem_range.1 hi)).1
end
/-- The first events of what came in. -/
theorem EvIn.first {W : World} {A : Option Addr} {c : Nat} {L : List Evt} (h : EvIn W A c L) {n : Nat} (hn : n < L.length) : EvIn W A c (L.take n) ∧ (L.take n).length = n := by
  have hl : (L.take n).length = n := by rw [List.length_take]; omega
  obtain ⟨-, h1, h2, h3, h4⟩ := h.li.parts
  refine ⟨⟨⟨A, c, rfl, h1.take n, fun e => by have := h2 e; omega, by rw [hl]; omega, h4⟩, fun x hx => h.byt x (List.mem_of_mem_take hx)⟩, hl⟩
end Go.Proofs.YtjkhkohlejkdlaaDoor
