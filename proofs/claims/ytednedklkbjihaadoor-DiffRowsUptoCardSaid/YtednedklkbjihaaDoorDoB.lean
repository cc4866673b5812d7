/- diff: what is sent. -/
import Derived.Test.YtednedklkbjihaaDoorDoA
import Derived.Test.YtednedklkbjihaaDoorDeG
import Derived.Deep.CutRange
namespace Go.Proofs.YtednedklkbjihaaDoor
open Go.RowKit
set_option linter.unusedVariables false
set_option linter.unusedSimpArgs false
set_option maxRecDepth 100000

/-- What is sent so far; where the cursor is; is it known? -/
structure Os where
  L : List Ob
  a : Int
  b : Int
  kn : Bool
def txtL (x : ByteArray) : List Ob := if x.toList.isEmpty = true then [] else [⟨1, 0, 0, x⟩]
def eraL (e : Bool) : List Ob := if e then [⟨3, 0, 0, ⟨#[]⟩⟩] else []
def opsNext (cols : Int) (s : Os) (d : Dr) : Os := ⟨s.L ++ goD s.kn s.a s.b d.r d.f ++ txtL d.x ++ eraL d.e, d.r, d.t, decide ((d.t : Int) < cols)⟩
def opsS (cols : Int) (s : Os) (D : List Dr) : Os := D.foldl (opsNext cols) s
theorem opsS_snoc {cols : Int} {s : Os} {D : List Dr} {k : Nat} {d : Dr} (h : D[k]? = some d) : opsS cols s (D.take (k + 1)) = opsNext cols (opsS cols s (D.take k)) d := by
  rw [take_snoc' h]
  simp [opsS]
theorem Li.dr {w : World} {S : Nat → Prop} {A : Option Addr} {D : List Dr} (h : Li 5 encD w S A D) {j : Nat} (hj : j < D.length) : ∃ d b o, D[j]? = some d ∧ A = some ⟨b, o, none⟩ ∧ b < w.heap.size ∧
    w.cell? ⟨b, o + j * 5, none⟩ = some (.int .i64 d.r) ∧ w.cell? ⟨b, o + j * 5 + 1, none⟩ = some (.int .i64 d.f) ∧ w.cell? ⟨b, o + j * 5 + 2, none⟩ = some (.int .i64 d.t) ∧ w.cell? ⟨b, o + j * 5 + 3, none⟩ = some (.string d.x) ∧ w.cell? ⟨b, o + j * 5 + 4, none⟩ = some (.bool d.e) := by
  obtain ⟨b, o, e, hl, hs, hc⟩ := h.at hj
  exact ⟨D[j], b, o, List.getElem?_eq_getElem hj, e, hl, hc 0 _ rfl, by have := hc 1 _ rfl; rwa [← Nat.add_assoc] at this, by have := hc 2 _ rfl; rwa [← Nat.add_assoc] at this, by have := hc 3 _ rfl; rwa [← Nat.add_assoc] at this, by have := hc 4 _ rfl; rwa [← Nat.add_assoc] at this⟩
/-- A row's numbers are small. -/
def Sm (d : Dr) : Prop := d.r ≤ 100000 ∧ d.f ≤ 100000 ∧ d.t ≤ 100000
theorem moveL_le (c d : Int) : (moveL c d).length ≤ 10 := show 1 ≤ 10 by omega
theorem goD_len {kn : Bool} {a b c d : Int} (a0 : 0 ≤ a) (a1 : a ≤ 100000) (b0 : 0 ≤ b) (b1 : b ≤ 100000) (c0 : 0 ≤ c) (c1 : c ≤ 100000) (d0 : 0 ≤ d) (d1 : d ≤ 100000) : (goD kn a b c d).length ≤ 10 := by
  unfold goD
  cases kn
  · exact moveL_le c d
  · exact (goL_fit a0 a1 b0 b1 c0 c1 d0 d1).2
theorem txtL_len (x : ByteArray) : (txtL x).length ≤ 1 := by unfold txtL; split <;> simp
theorem eraL_len (e : Bool) : (eraL e).length ≤ 1 := by unfold eraL; split <;> simp
/-- The spot is small. -/
def SmO (s : Os) (k : Nat) : Prop := 0 ≤ s.a ∧ s.a ≤ 100000 ∧ 0 ≤ s.b ∧ s.b ≤ 100000 ∧ s.L.length ≤ k * 12
theorem SmO.next {cols : Int} {s : Os} {k : Nat} {d : Dr} (h : SmO s k) (hd : Sm d) : SmO (opsNext cols s d) (k + 1) := by
  obtain ⟨h1, h2, h3, h4, h5⟩ := h
  obtain ⟨d1, d2, d3⟩ := hd
  have := goD_len (kn := s.kn) h1 h2 h3 h4 (c := d.r) (d := d.f) (by omega) (by omega) (by omega) (by omega)
  have := txtL_len d.x
  have := eraL_len d.e
  refine ⟨?_, ?_, ?_, ?_, ?_⟩
  · show (0 : Int) ≤ d.r; omega
  · show (d.r : Int) ≤ _; omega
  · show (0 : Int) ≤ d.t; omega
  · show (d.t : Int) ≤ _; omega
  · show (s.L ++ goD s.kn s.a s.b d.r d.f ++ txtL d.x ++ eraL d.e).length ≤ _
    rw [List.length_append, List.length_append, List.length_append]
    omega

def Told (w : World) (A : Option Addr) (n c : Nat) (L : List Ob) (a' b' : Int) (Y : World) : Prop := Y.cell? ⟨w.heap.size + 1, 0, none⟩ = some (.int .i64 a') ∧ Y.cell? ⟨w.heap.size + 1, 1, none⟩ = some (.int .i64 b') ∧ LiV 4 encO Y (fun q => w.heap.size ≤ q) (.slice A n c) L ∧ Below w.heap.size w Y
/-- What Ops keeps. -/
structure OpSt (w : World) (E : TypeId) (A : Option Addr) (n c : Nat) (L : List Ob) (a b : Int) (X : World) : Prop where
  own : X.ownsRow (w.heap.size + 2) E 4 (.slice A n c) n (flatL encO L)
  at_ : Blk X w.heap.size #[.int .i64 a, .int .i64 b]
  res : Blk X (w.heap.size + 1) #[.int .i64 0, .int .i64 0]
  below : Below w.heap.size w X
section
variable {w X Y Z : World} {E : TypeId} {A A' : Option Addr} {n c m c' : Nat} {L : List Ob} {a b : Int}
theorem OpSt.later (h : OpSt w E A n c L a b X) (hb : Below X.heap.size X Y) : OpSt w E A n c L a b Y :=
  ⟨own_later h.own hb, h.at_.later hb h.at_.1, h.res.later hb h.res.1, belowStepA h.below hb⟩
theorem OpSt.size (h : OpSt w E A n c L a b X) : w.heap.size + 2 ≤ X.heap.size := by have := h.res.1; omega
theorem own_off {base : Nat} {xs : List Value} (h : X.ownsRow base E 4 (.slice A n c) n xs) {g : Nat} (hg : g < base) : some g ≠ (Value.slice A n c).ownBlock := fun e => by have := (h.lt g e.symm).1; omega
theorem OpSt.push {M : List Ob} (h : OpSt w E A n c L a b X) (hp : Pushed X Z (w.heap.size + 2) E 4 (.slice A n c) (n + m) (flatL encO L ++ flatL encO M) A' c') : OpSt w E A' (n + m) c' (L ++ M) a b Z :=
  ⟨by rw [flatL_append]; exact hp.own, h.at_.grown hp.grown (own_off h.own (by omega)), h.res.grown hp.grown (own_off h.own (by omega)), hp.below h.below h.own (by omega)⟩
theorem OpSt.spot (h : OpSt w E A n c L a b X) (a' b' : Int) : OpSt w E A n c L a' b' ((X.setCell ⟨w.heap.size, 0, none⟩ (.int .i64 a')).setCell ⟨w.heap.size, 1, none⟩ (.int .i64 b')) := by
  refine ⟨ownsRow_setCell_below (ownsRow_setCell_below h.own (by show w.heap.size < _; omega) _) (by show w.heap.size < _; omega) _, ?_, (h.res.far (by show w.heap.size ≠ _; omega) _).far (by show w.heap.size ≠ _; omega) _, (h.below.setCell (Nat.le_refl _) _).setCell (Nat.le_refl _) _⟩
  exact (h.at_.set_ 0 (by simp) _).set_ 1 (by simp) _
theorem OpSt.drew (h : OpSt w E A n c L a b X) : OpSt w E A n c L a b X.drew := ⟨h.own, h.at_.drew, h.res.drew, h.below.drew⟩
theorem OpSt.told (h : OpSt w E A n c L a b X) (a' b' : Int) : Told w A n c L a' b' (((X.setCell ⟨w.heap.size + 1, 0, none⟩ (.int .i64 a')).setCell ⟨w.heap.size + 1, 1, none⟩ (.int .i64 b')).drew) := by
  have hr := ((h.res.set_ 0 (by simp) (.int .i64 a')).set_ 1 (by simp) (.int .i64 b')).drew
  have ho : (((X.setCell ⟨w.heap.size + 1, 0, none⟩ (.int .i64 a')).setCell ⟨w.heap.size + 1, 1, none⟩ (.int .i64 b')).drew).ownsRow (w.heap.size + 2) E 4 (.slice A n c) n (flatL encO L) :=
    ownsRow_setCell_below (ownsRow_setCell_below h.own (by show w.heap.size + 1 < _; omega) _) (by show w.heap.size + 1 < _; omega) _
  exact ⟨hr.2.1 0, hr.2.1 1, (LiV.own encO_len (by omega) ho).mono fun q hq => by omega, ((h.below.setCell (by show _ ≤ w.heap.size + 1; omega) _).setCell (by show _ ≤ w.heap.size + 1; omega) _).drew⟩
end
abbrev drC (d : Dr) : Array Value := #[.int .i64 d.r, .int .i64 d.f, .int .i64 d.t, .string d.x, .bool d.e]
end Go.Proofs.YtednedklkbjihaaDoor
