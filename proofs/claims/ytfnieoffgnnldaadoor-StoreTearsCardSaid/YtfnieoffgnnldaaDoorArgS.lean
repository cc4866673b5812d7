/- What comes in: slices of structs of one-cell fields, slices of slices. -/
import Derived.Test.YtfnieoffgnnldaaDoorKit
import Derived.Deep.Slices
import Derived.Deep.Fields
namespace Go.Proofs.YtfnieoffgnnldaaDoor
open Go.ChangeShapes Go.WideShapes Go.ChangeAt Go.RowKit Go.Deep
set_option linter.unusedVariables false
set_option linter.unusedSimpArgs false

theorem wf_i32 {a : Int} (h : (Lit.int .i32 a).wf = true) : -2147483648 ≤ a ∧ a ≤ 2147483647 := by
  simp [Lit.wf, IntKind.min, IntKind.max, IntKind.bits, IntKind.signed] at h; omega
theorem wf_i64 {a : Int} (h : (Lit.int .i64 a).wf = true) : -9223372036854775808 ≤ a ∧ a ≤ 9223372036854775807 := by
  simp [Lit.wf, IntKind.min, IntKind.max, IntKind.bits, IntKind.signed] at h; omega
theorem wf_u8 {a : Int} (h : (Lit.int .u8 a).wf = true) : 0 ≤ a ∧ a ≤ 255 := by
  simp [Lit.wf, IntKind.min, IntKind.max, IntKind.bits, IntKind.signed] at h; omega

section
variable {H : Type} {enc : TypeId × Value → H} {P : Program} {W : World} {base : Nat} {spare : Nat → Bool} {held : Bool}

/-- What a value of a type reads as, in whatever fuel. -/
def Reads (enc : TypeId × Value → H) (P : Program) (W : World) (base : Nat) (spare : Nat → Bool) (held : Bool) (T : TypeId) (v : Value) : Prop :=
  ∃ fuel y, DataW.trod enc P W base spare held fuel T [v] = some y

theorem reads_int {T : TypeId} {k : IntKind} {v : Value} (hT : P.underlying T = some (.int k)) (h : Reads enc P W base spare held T v) : ∃ x, v = .int k x ∧ (Lit.int k x).wf = true := by
  obtain ⟨fuel, y, hf⟩ := h
  obtain ⟨x, h1, _, h2⟩ := DataW.trod_int hT hf
  simp only [List.cons.injEq, and_true] at h1
  exact ⟨x, h1, h2⟩

/-- A slice that came in, its cells by the place. -/
theorem reads_slice {T E : TypeId} {v : Value} (hT : P.underlying T = some (.slice E)) (hC : P.cellsOf E = 1) (h : Reads enc P W base spare held T v) :
    ∃ A n c, ∃ V : Nat → Value, v = .slice A n c ∧ Rd W A n V ∧ (A = none → n = 0 ∧ c = 0) ∧ n ≤ c ∧ c ≤ maxLen ∧ ∀ j, j < n → Reads enc P W base spare held E (V j) := by
  obtain ⟨fuel, y, hf⟩ := h
  rcases open_slice1 hT hC hf with ⟨hcs, _⟩ | ⟨a, len, cap, m, n, V, D, Pl, hcs, _, hl, hm, hmm, _, hi⟩
  · simp only [List.cons.injEq, and_true] at hcs
    subst hcs
    exact ⟨none, 0, 0, fun _ => .nilIface, rfl, Rd.empty _ _ _, fun _ => ⟨rfl, rfl⟩, Nat.le_refl _, Nat.zero_le _, fun j hj => absurd hj (by omega)⟩
  · simp only [List.cons.injEq, and_true] at hcs
    subst hcs
    have hle : len ≤ m := by rw [hmm]; split <;> omega
    refine ⟨some a, len, cap, V, rfl, fun j hj => ?_, (fun e => by cases e), hl, hm, fun j hj => ⟨n, _, (hi j (by omega)).2⟩⟩
    have hc := (hi j (by omega)).1
    have hsp : a.spot = none := by
      have := World.cell?_spot (hi 0 (by omega)).1
      simpa [Addr.add] using this
    obtain ⟨b, off, spot⟩ := a
    simp only at hsp
    subst hsp
    rw [Go.WideShapes.add_plain] at hc
    exact ⟨b, off, rfl, World.block_lt_of_cell? _ _ hc, hc⟩

/-- A slice of structs that came in, cell by cell. -/
theorem reads_structs {T E : TypeId} {fs : Array Field} {v : Value} (hT : P.underlying T = some (.slice E)) (hE : P.underlying E = some (.struct fs)) (hone : oneCellFields P fs = true) (hC : P.cellsOf E = fs.size) (h : Reads enc P W base spare held T v) :
    ∃ A n c, ∃ V : Nat → Nat → Value, v = .slice A n c ∧ (A = none → n = 0 ∧ c = 0) ∧ n ≤ c ∧ c ≤ maxLen ∧ ∀ i, i < n → ∀ (j : Nat) (f : Field), fs[j]? = some f →
      (∃ b o, A = some ⟨b, o, none⟩ ∧ b < W.heap.size ∧ W.cell? ⟨b, o + (i * fs.size + j), none⟩ = some (V i j)) ∧ Reads enc P W base spare held f.type (V i j) := by
  obtain ⟨fuel, y, hf⟩ := h
  rcases open_slice hT hf with ⟨hcs, _⟩ | ⟨a, len, cap, m, n, D, Pl, hcs, _, hl, hm, hmm, _, hi⟩
  · simp only [List.cons.injEq, and_true] at hcs
    subst hcs
    exact ⟨none, 0, 0, fun _ _ => .nilIface, rfl, fun _ => ⟨rfl, rfl⟩, Nat.le_refl _, Nat.zero_le _, fun i hi => absurd hi (by omega)⟩
  · simp only [List.cons.injEq, and_true] at hcs
    subst hcs
    have hle : len ≤ m := by rw [hmm]; split <;> omega
    have key : ∀ i, i < len → ∀ (j : Nat) (f : Field), fs[j]? = some f → ∃ u, (∃ b o, some a = some (⟨b, o, none⟩ : Addr) ∧ b < W.heap.size ∧ W.cell? ⟨b, o + (i * fs.size + j), none⟩ = some u) ∧ Reads enc P W base spare held f.type u := by
      intro i hil j f hj
      obtain ⟨cs', hc, ht⟩ := hi i (by omega)
      rw [hC] at hc
      obtain ⟨ys, n', _, _, hlen, hyl, hff⟩ := DataW.trod_struct hE ht
      obtain ⟨_, hcl, hat⟩ := World.cells?_some hc
      obtain ⟨ho, hk⟩ := hone_of hone j f hj
      have hjl : j < fs.size := (Array.getElem?_eq_some_iff.1 hj).1
      have h1 := hff j f hj
      have e1 : (cs'.drop f.offset).take (P.cellsOf f.type) = [cs'[j]'(by omega)] := by
        rw [ho, hk, List.drop_eq_getElem_cons (by omega)]
        rfl
      rw [e1] at h1
      have hcell := hat j hjl
      rw [List.getElem?_eq_getElem (by omega)] at hcell
      refine ⟨cs'[j]'(by omega), ?_, n', _, h1.trans (List.getElem?_eq_getElem (by omega))⟩
      have hsp : a.spot = none := by
        obtain ⟨cs0, hc0, _⟩ := hi 0 (by omega)
        rw [hC] at hc0
        obtain ⟨_, hcl0, hat0⟩ := World.cells?_some hc0
        have h00 := hat0 0 (by omega)
        rw [List.getElem?_eq_getElem (by omega)] at h00
        have := World.cell?_spot h00
        simpa [Addr.add] using this
      obtain ⟨b, off, spot⟩ := a
      simp only at hsp
      subst hsp
      rw [Go.WideShapes.add_plain, Go.WideShapes.add_plain, Nat.add_assoc] at hcell
      exact ⟨b, off, rfl, World.block_lt_of_cell? _ _ hcell, hcell⟩
    refine ⟨some a, len, cap, fun i j => Classical.epsilon fun u => (∃ b o, some a = some (⟨b, o, none⟩ : Addr) ∧ b < W.heap.size ∧ W.cell? ⟨b, o + (i * fs.size + j), none⟩ = some u) ∧ ∀ f, fs[j]? = some f → Reads enc P W base spare held f.type u, rfl, (fun e => by cases e), hl, hm, fun i hil j f hj => ?_⟩
    obtain ⟨u, h1, h2⟩ := key i hil j f hj
    have := Classical.epsilon_spec (p := fun u => (∃ b o, some a = some (⟨b, o, none⟩ : Addr) ∧ b < W.heap.size ∧ W.cell? ⟨b, o + (i * fs.size + j), none⟩ = some u) ∧ ∀ f, fs[j]? = some f → Reads enc P W base spare held f.type u) ⟨u, h1, fun f' hf' => by rw [hj] at hf'; injection hf' with e; subst e; exact h2⟩
    exact ⟨this.1, this.2 f hj⟩

/-- A slice that came in as an argument. -/
theorem reads_arg {T : TypeId} {r : Reach} {b0 : Nat} {v : Value} {d : DataW H} {p : List MemPlace} {E : TypeId} (hT : P.underlying T = some (.slice E)) (hv : Value.okWide P W r b0 T v) (h : DataW.Trod enc P W base spare held T v d p) : Reads enc P W base spare held T v := by
  obtain ⟨a0, n, c, rfl⟩ := okWide_slice hT hv
  obtain ⟨fuel, hf⟩ := h
  exact ⟨fuel, _, by simpa [Value.cells] using hf⟩
end

end Go.Proofs.YtfnieoffgnnldaaDoor
