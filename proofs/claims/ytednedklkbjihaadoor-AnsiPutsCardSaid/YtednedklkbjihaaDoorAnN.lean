/- ansi: what comes in; two rows that grow. -/
import Derived.Test.YtednedklkbjihaaDoorAnM
import Derived.Test.YtednedklkbjihaaDoorArgS
namespace Go.Proofs.YtednedklkbjihaaDoor
open Go.ChangeShapes Go.WideShapes Go.ChangeAt Go.RowKit Go.Deep
set_option linter.unusedVariables false
set_option linter.unusedSimpArgs false

/-- What came in. -/
structure OpIn (W : World) (A : Option Addr) (c : Nat) (L : List Ob) : Prop where
  li : Li 4 encO W (fun _ => True) A L
  le : L.length ≤ c
  mx : c ≤ maxLen
  ok : ∀ x ∈ L, (Lit.int .i64 x.a).wf = true ∧ (Lit.int .i64 x.b).wf = true
section
variable {H : Type} {enc : TypeId × Value → H} {W : World} {base : Nat} {spare : Nat → Bool} {held : Bool}
theorem reads_str {P : Program} {T : TypeId} {v : Value} (hT : P.underlying T = some .string) (h : Reads enc P W base spare held T v) : ∃ b, v = .string b := by
  obtain ⟨fuel, y, hf⟩ := h
  obtain ⟨x, h1, _⟩ := DataW.trod_string hT hf
  simp only [List.cons.injEq, and_true] at h1
  exact ⟨x, h1⟩
set_option maxRecDepth 100000 in
theorem arg_ops {v : Value} {r : Reach} {b0 : Nat} {d : DataW H} {p : List MemPlace} (hv : Value.okWide Tryd.prog W r b0 40 v) (h : DataW.Trod enc Tryd.prog W base spare held 40 v d p) :
    ∃ A L c, v = .slice A (L : List Ob).length c ∧ OpIn W A c L := by
  obtain ⟨A, n, c, V, rfl, h0, h1, h2, hV⟩ := reads_structs Tryd.underlying40 Tryd.underlying49 (by kernel_rfl) (by kernel_rfl) (reads_arg Tryd.underlying40 hv h)
  have key : ∀ i, i < n → ∃ x : Ob, ((Lit.int .i64 x.a).wf = true ∧ (Lit.int .i64 x.b).wf = true) ∧ ∃ b o, A = some ⟨b, o, none⟩ ∧ b < W.heap.size ∧ ∀ (j : Nat) (u : Value), (encO x)[j]? = some u → W.cell? ⟨b, o + (i * 4 + j), none⟩ = some u := by
    intro i hi
    have f := hV i hi
    obtain ⟨⟨b, o, e, hb, k0⟩, r0⟩ := f 0 _ rfl
    obtain ⟨⟨_, _, e1, _, k1⟩, r1⟩ := f 1 _ rfl
    obtain ⟨⟨_, _, e2, _, k2⟩, r2⟩ := f 2 _ rfl
    obtain ⟨⟨_, _, e3, _, k3⟩, r3⟩ := f 3 _ rfl
    rw [e] at e1 e2 e3
    simp only [Option.some.injEq, Addr.mk.injEq, and_true] at e1 e2 e3
    obtain ⟨rfl, rfl⟩ := e1
    obtain ⟨rfl, rfl⟩ := e2
    obtain ⟨rfl, rfl⟩ := e3
    obtain ⟨x0, y0, z0⟩ := reads_int Tryd.underlying3 r0
    obtain ⟨x1, y1, z1⟩ := reads_int Tryd.underlying3 r1
    obtain ⟨x2, y2, z2⟩ := reads_int Tryd.underlying3 r2
    obtain ⟨x3, y3⟩ := reads_str Tryd.underlying9 r3
    rw [y0] at k0
    rw [y1] at k1
    rw [y2] at k2
    rw [y3] at k3
    refine ⟨⟨x0, x1, x2, x3⟩, ⟨z1, z2⟩, b, o, e, hb, fun j u hu => ?_⟩
    match j, hu with
    | 0, hu => injection hu with hu; subst hu; exact k0
    | 1, hu => injection hu with hu; subst hu; exact k1
    | 2, hu => injection hu with hu; subst hu; exact k2
    | 3, hu => injection hu with hu; subst hu; exact k3
    | j + 4, hu => simp [encO] at hu
  haveI : Nonempty Ob := ⟨⟨0, 0, 0, ⟨#[]⟩⟩⟩
  let F : Nat → Ob := fun i => Classical.epsilon fun x => ((Lit.int .i64 x.a).wf = true ∧ (Lit.int .i64 x.b).wf = true) ∧ ∃ b o, A = some ⟨b, o, none⟩ ∧ b < W.heap.size ∧ ∀ (j : Nat) (u : Value), (encO x)[j]? = some u → W.cell? ⟨b, o + (i * 4 + j), none⟩ = some u
  have hF : ∀ i, i < n → ((Lit.int .i64 (F i).a).wf = true ∧ (Lit.int .i64 (F i).b).wf = true) ∧ ∃ b o, A = some ⟨b, o, none⟩ ∧ b < W.heap.size ∧ ∀ (j : Nat) (u : Value), (encO (F i))[j]? = some u → W.cell? ⟨b, o + (i * 4 + j), none⟩ = some u := fun i hi => Classical.epsilon_spec (key i hi)
  refine ⟨A, (List.range n).map F, c, by simp, ⟨?_, by simpa using h1, h2, ?_⟩⟩
  · intro j x hj
    have hjn : j < n := by have := (List.getElem?_eq_some_iff.1 hj).1; simpa using this
    simp [hjn] at hj
    subst hj
    obtain ⟨_, b, o, e, hb, hc⟩ := hF j hjn
    exact ⟨b, o, e, hb, trivial, hc⟩
  · intro x hx
    obtain ⟨i, hi, rfl⟩ := List.mem_map.1 hx
    exact (hF i (List.mem_range.1 hi)).1
end

/-- Two rows of the law's own. -/
structure Rows2 (W : World) (A : Option Addr) (n c : Nat) (La : List Ob) (B : Option Addr) (m d : Nat) (Lb : List Ob) (X : World) : Prop where
  a : X.ownsRow W.heap.size 51 4 (.slice A n c) n (flatL encO La)
  b : X.ownsRow W.heap.size 49 4 (.slice B m d) m (flatL encO Lb)
  ne : ∀ g, (Value.slice A n c).ownBlock = some g → (Value.slice B m d).ownBlock ≠ some g
  below : Below W.heap.size W X
theorem Rows2.start (W : World) : Rows2 W none 0 0 [] none 0 0 [] W := ⟨World.ownsRow_nil _ _ _ _, World.ownsRow_nil _ _ _ _, fun g h => by simp [Value.ownBlock] at h, Below.refl _ _⟩
theorem Rows2.later {W X Y : World} {A B : Option Addr} {n c m d : Nat} {La Lb : List Ob} (h : Rows2 W A n c La B m d Lb X) (hb : Below X.heap.size X Y) : Rows2 W A n c La B m d Lb Y :=
  ⟨own_later h.a hb, own_later h.b hb, h.ne, belowStepA h.below hb⟩
theorem Rows2.pushA {W X Z : World} {A B A' : Option Addr} {n c m d c' : Nat} {La Lb : List Ob} {x : Ob} (h : Rows2 W A n c La B m d Lb X) (hp : Pushed X Z W.heap.size 51 4 (.slice A n c) (n + 1) (flatL encO La ++ encO x) A' c') : Rows2 W A' (n + 1) c' (La ++ [x]) B m d Lb Z := by
  refine ⟨by rw [flatL_snoc]; exact hp.own, h.b.kept hp.grown ?_, ?_, hp.below h.below h.a (Nat.le_refl _)⟩
  · cases hb : (Value.slice B m d).ownBlock with
    | none => exact .inl rfl
    | some g => exact .inr fun e => h.ne g e.symm hb
  · intro g hg hB
    rcases hp.at_ with e | ⟨k, e, hk⟩
    · exact h.ne g (e ▸ hg) hB
    · have := (h.b.lt g hB).2
      rw [e] at hg
      injection hg with hg
      omega
theorem Rows2.pushB {W X Z : World} {A B B' : Option Addr} {n c m d d' : Nat} {La Lb : List Ob} {x : Ob} (h : Rows2 W A n c La B m d Lb X) (hp : Pushed X Z W.heap.size 49 4 (.slice B m d) (m + 1) (flatL encO Lb ++ encO x) B' d') : Rows2 W A n c La B' (m + 1) d' (Lb ++ [x]) Z := by
  refine ⟨h.a.kept hp.grown ?_, by rw [flatL_snoc]; exact hp.own, ?_, hp.below h.below h.b (Nat.le_refl _)⟩
  · cases hb : (Value.slice A n c).ownBlock with
    | none => exact .inl rfl
    | some g => exact .inr fun e => h.ne g hb e.symm
  · intro g hg hB
    rcases hp.at_ with e | ⟨k, e, hk⟩
    · exact h.ne g hg (e ▸ hB)
    · have := (h.a.lt g hg).2
      rw [e] at hB
      injection hB with hB
      omega
end Go.Proofs.YtednedklkbjihaaDoor
