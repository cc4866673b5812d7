/- grid: the document's Erase and Put. -/
import Derived.Test.YtmckoabhgjfiiaaGwF

import Derived.StillTailTactics

namespace Go.Proofs.Ytmckoabhgjfiiaa

open Go.RowKit

set_option linter.unusedVariables false

set_option linter.unusedSimpArgs false

def TellsIn (w : World) (p : Value) (r c : Int) (b : Bool) : Prop := ∀ X, Below w.heap.size w X → Calls Try.prog 29 #[p, .int .i64 r, .int .i64 c] X fun e w' => e = .returned (.bool b) ∧ X = w'

theorem updR_same (F : Nat → Nat → Cl) (r : Nat) (G : Nat → Cl) : updR F r G r = G := by unfold updR; rw [if_pos rfl]
theorem updR_updR (F : Nat → Nat → Cl) (r : Nat) (G H : Nat → Cl) : updR (updR F r G) r H = updR F r H := by
  funext r'; unfold updR; split <;> rfl
theorem updR_self (F : Nat → Nat → Cl) (r : Nat) : updR F r (F r) = F := by
  funext r'; unfold updR; split
  · rename_i e; rw [e]
  · rfl

/-- What a change of one row leaves. -/
def RowR (lo hi ob Co R n : Nat) (rb Cr : Nat → Nat) (F' : Nat → Nat → Cl) (w w' : World) : Prop := RG w' lo hi ob Co R n rb Cr F' ∧ Chg (Iv lo hi) w w'

theorem RG.loose {w : World} {lo hi ob Co R n : Nat} {rb Cr : Nat → Nat} {F : Nat → Nat → Cl} (h : RG w lo hi ob Co R n rb Cr F) {r c C : Nat} (hr : r < R) (hc : c < n) :
    Calls Try.prog 30 #[.slice (some ⟨rb r, 0, none⟩) n C, .int .i64 c] w fun e w' => (∃ v, e = .returned v) ∧ RowR lo hi ob Co R n rb Cr (updR F r (looseG (F r) c)) w w' := by
  obtain ⟨cs, hA, K⟩ := h.rowAt hr
  refine (looseR_row hA hc).mono ?_
  rintro e w' ⟨hv, cs', hB, hO, hI, hC⟩
  exact ⟨hv, K w' cs' _ hB hO hI (wf_loose hA.wf hc) hC, hC.mono fun k _ e => e ▸ ⟨(h.b1 r hr).1, (h.b1 r hr).2.1⟩⟩

set_option maxHeartbeats 1000000 in
theorem putR_no {w : World} {p : Value} {r c wd : Int} {t : ByteArray} (h : TellsIn w p r c false) :
    Calls Try.prog 22 #[p, .int .i64 r, .int .i64 c, .agg #[.string t, .int .i64 wd]] w fun e w' => e = .returned (.bool false) ∧ Below w.heap.size w w' := by
  have H1 := Lib.hid h
  clear h
  go_enter Try.func22, Try.ntmps22
  go_wp2_with fail
  refine at_calls (fun X => Below w.heap.size w X) ((Below.refl _ _).alloc (Nat.le_refl _) _) ?_
  intro X hX
  have HX := Lib.hid hX
  refine (H1.out X hX).mono ?_
  rintro e w1 ⟨rfl, rfl⟩
  clear hX
  go_wp2
  go_ret
  exact ⟨rfl, HX.out⟩

set_option maxHeartbeats 1000000 in
theorem putR_bad {w : World} {p : Value} {r c wd : Int} {t : ByteArray} (h : TellsIn w p r c true) (h1 : wd ≠ 1) (h2 : wd ≠ 2) :
    Calls Try.prog 22 #[p, .int .i64 r, .int .i64 c, .agg #[.string t, .int .i64 wd]] w fun e w' => e = .returned (.bool false) ∧ Below w.heap.size w w' := by
  have H1 := Lib.hid h
  have d1 : (wd == 1) = false := by simpa using h1
  have d2 : (wd == 2) = false := by simpa using h2
  clear h
  go_enter Try.func22, Try.ntmps22
  go_wp2_with fail
  refine at_calls (fun X => Below w.heap.size w X ∧ Blk X w.heap.size #[.string t, .int .i64 wd]) ⟨(Below.refl _ _).alloc (Nat.le_refl _) _, blk_new _ _ _⟩ ?_
  rintro X ⟨hX, hB⟩
  have HX := Lib.hid hX
  have l1 := hB.2.1 1
  simp at l1
  refine (H1.out X hX).mono ?_
  rintro e w1 ⟨rfl, rfl⟩
  clear hX hB
  go_wp2
  go_ret
  exact ⟨rfl, HX.out⟩

set_option maxHeartbeats 1000000 in
theorem putR_far {w : World} {p : Value} {r : Int} {c E : Nat} {t : ByteArray} (h : TellsIn w p r c true) (h' : TellsIn w p r E false) (hE : c + 1 = E) (hc : c ≤ 1000000) :
    Calls Try.prog 22 #[p, .int .i64 r, .int .i64 c, .agg #[.string t, .int .i64 2]] w fun e w' => e = .returned (.bool false) ∧ Below w.heap.size w w' := by
  have H1 := Lib.hid h
  have H2 := Lib.hid h'
  have e1 : (c : Int) + 1 = (E : Int) := by omega
  clear h h' hE
  go_enter Try.func22, Try.ntmps22
  go_wp2_with fail
  refine at_calls (fun X => Below w.heap.size w X ∧ Blk X w.heap.size #[.string t, .int .i64 2]) ⟨(Below.refl _ _).alloc (Nat.le_refl _) _, blk_new _ _ _⟩ ?_
  rintro X ⟨hX, hB⟩
  have HX := Lib.hid hX
  have l1 := hB.2.1 1
  simp at l1
  refine (H1.out X hX).mono ?_
  rintro e w1 ⟨rfl, rfl⟩
  clear hX hB
  go_wp2_with fail
  refine (H2.out X HX.out).mono ?_
  rintro e w1 ⟨rfl, rfl⟩
  go_wp2
  go_ret
  exact ⟨rfl, HX.out⟩
end Go.Proofs.Ytmckoabhgjfiiaa
