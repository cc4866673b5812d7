/- strings.Builder: what it holds, as bytes. -/
import Derived.Test.YtjkhkohlejkdlaaDoorBldE
import Derived.Lib.OthersKept
import Derived.Lib.UnsafeStr
namespace Go.Proofs.YtjkhkohlejkdlaaDoor
open Go.RowKit
set_option linter.unusedVariables false
set_option linter.unusedSimpArgs false

/-- A builder in block b that holds bytes. -/
def BldIs (b : Nat) (l : List UInt8) (w : World) : Prop := Lib.IsBuilderF 53 5 b b (Lib.byteCells l) w
theorem bldIs_new (w : World) : BldIs w.heap.size [] (w.alloc (.cells #[.pointer none, .slice none 0 0] 53)) :=
  Lib.IsBuilderF.of (.inl ⟨Nat.le_refl _, .slice none 0 0, heap_alloc_new w _, World.ownsRow_nil _ _ _ _, by simp [Value.ownBlock]⟩)
theorem bldIs_write {w0 w : World} {l : List UInt8} (hb : Below w0.heap.size w0 w) (h : BldIs w0.heap.size l w) (s : ByteArray) (hl : l.length + s.size ≤ 140737488355328) : Calls Tryd.prog 22 #[.pointer (some ⟨w0.heap.size, 0, none⟩), .string s] w fun e w' => e = .returned (.tuple #[.int .i64 s.size, .nilIface]) ∧ BldIs w0.heap.size (l ++ s.data.toList) w' ∧ Below w0.heap.size w0 w' := by
  refine (bld_string w0.heap.size w0.heap.size _ s w h (by rw [Lib.byteCells_length]; exact hl) hb.size).mono ?_
  rintro e w' ⟨rfl, h1, h2, _⟩
  refine ⟨rfl, ?_, hb.trans h2⟩
  rw [Lib.strCells_eq, ← Lib.byteCells_append] at h1
  exact .inr h1
theorem bldIs_text {w0 w : World} {l : List UInt8} (hb : Below w0.heap.size w0 w) (h : BldIs w0.heap.size l w) : Calls Tryd.prog 25 #[.pointer (some ⟨w0.heap.size, 0, none⟩)] w fun e w' => e = .returned (.string ⟨l.toArray⟩) ∧ Below w0.heap.size w0 w' := by
  refine (bld_text w0.heap.size w0.heap.size l w h hb.size).mono ?_
  rintro e w' ⟨rfl, _, h2, _⟩
  exact ⟨rfl, hb.trans h2⟩
theorem BldIs.alloc {b : Nat} {l : List UInt8} {w : World} (h : BldIs b l w) (o : Obj) : BldIs b l (w.alloc o) := Lib.IsBuilderF.alloc h o
theorem BldIs.later {b : Nat} {l : List UInt8} {w w' : World} (h : BldIs b l w) (hb : Below w.heap.size w w') : BldIs b l w' := by
  have key : ∀ p, Lib.BuilderAtF 53 5 b b p (Lib.byteCells l) w → Lib.BuilderAtF 53 5 b b p (Lib.byteCells l) w' := fun p h => by
    have hlt := h.lt
    obtain ⟨h1, v, h2, h3, h4⟩ := h
    refine ⟨h1, v, (hb.block b hlt).trans h2, h3.kept (row := none) ⟨hb.os, hb.tape, hb.output, hb.size, fun k hk _ => hb.block k hk⟩ ?_, h4⟩
    by_cases e : v.ownBlock = none
    · exact .inl e
    · exact .inr e
  rcases h with h | h
  · exact .inl (key _ h)
  · exact .inr (key _ h)

theorem byte_cells (l : List UInt8) (c : UInt8) : Lib.byteCells l ++ [.int .u8 (c.toNat : Int)] = Lib.byteCells (l ++ [c]) := by
  rw [Lib.byteCells_append]
  rfl
/-- A builder in a block of the caller's. -/
theorem bldAt_write {g b : Nat} {w0 w : World} {l : List UInt8} (hB : g ≤ w.heap.size) (h : Lib.IsBuilderF 53 5 g b (Lib.byteCells l) w) (hb : Below g w0 w) (s : ByteArray) (hl : l.length + s.size ≤ 140737488355328) : Calls Tryd.prog 22 #[.pointer (some ⟨b, 0, none⟩), .string s] w fun e w' => e = .returned (.tuple #[.int .i64 s.size, .nilIface]) ∧ Lib.IsBuilderF 53 5 g b (Lib.byteCells (l ++ s.data.toList)) w' ∧ Below g w0 w' := by
  refine (bld_string g b _ s w h (by rw [Lib.byteCells_length]; exact hl) hB).mono ?_
  rintro e w' ⟨rfl, h1, h2, _⟩
  refine ⟨rfl, ?_, hb.trans h2⟩
  rw [Lib.strCells_eq, ← Lib.byteCells_append] at h1
  exact .inr h1
theorem bldAt_byte {g b : Nat} {w0 w : World} {l : List UInt8} (hB : g ≤ w.heap.size) (h : Lib.IsBuilderF 53 5 g b (Lib.byteCells l) w) (hb : Below g w0 w) (c : UInt8) (hl : l.length + 1 ≤ 140737488355328) : Calls Tryd.prog 23 #[.pointer (some ⟨b, 0, none⟩), .int .u8 (c.toNat : Int)] w fun e w' => e = .returned .nilIface ∧ Lib.IsBuilderF 53 5 g b (Lib.byteCells (l ++ [c])) w' ∧ Below g w0 w' := by
  refine (bld_byte g b _ c.toNat w h (by rw [Lib.byteCells_length]; exact hl) hB).mono ?_
  rintro e w' ⟨rfl, h1, h2, _⟩
  refine ⟨rfl, ?_, hb.trans h2⟩
  rw [byte_cells] at h1
  exact .inr h1
end Go.Proofs.YtjkhkohlejkdlaaDoor
