/- grid: the document's Erase and Put. -/
import Derived.Test.YtednedklkbjihaaDoorGeF

import Derived.StillTailTactics

namespace Go.Proofs.YtednedklkbjihaaDoor

open Go.RowKit

set_option linter.unusedVariables false

set_option linter.unusedSimpArgs false
set_option maxRecDepth 100000

def TellsIn (w : World) (p : Value) (r c : Int) (b : Bool) : Prop := ∀ X, Below w.heap.size w X → Calls Tryd.prog 50 #[p, .int .i64 r, .int .i64 c] X fun e w' => e = .returned (.bool b) ∧ X = w'

theorem updR_same (F : Nat → Nat → Cl) (r : Nat) (G : Nat → Cl) : updR F r G r = G := by unfold updR; rw [if_pos rfl]
theorem updR_updR (F : Nat → Nat → Cl) (r : Nat) (G H : Nat → Cl) : updR (updR F r G) r H = updR F r H := by
  funext r'; unfold updR; split <;> rfl
theorem updR_self (F : Nat → Nat → Cl) (r : Nat) : updR F r (F r) = F := by
  funext r'; unfold updR; split
  · rename_i e; rw [e]
  · rfl

set_option maxHeartbeats 1000000 in
theorem eraseR_no {w : World} {p : Value} {r c : Int} (h : TellsIn w p r c false) :
    Calls Tryd.prog 27 #[p, .int .i64 r, .int .i64 c] w fun e w' => (∃ v, e = .returned v) ∧ w = w' := by
  have H1 := Lib.hid (h w (Below.refl _ _))
  clear h
  go_enter Tryd.func27, Tryd.ntmps27
  go_wp2_with fail
  go_loopw [2] (fun i wr => i = .int .i64 c ∧ wr = w) (fun _ _ => 0)
  case atStart => exact ⟨rfl, rfl⟩
  case round =>
    obtain ⟨rfl, rfl⟩ := hrel
    go_wp2_with fail
    refine H1.out.mono ?_
    rintro e w1 ⟨rfl, rfl⟩
    go_wp2_with fail
    exact bodyPost_end (results_none rfl _ _ _) rfl ⟨⟨_, rfl⟩, rfl⟩

/-- What a change of one row leaves. -/
def RowR (lo hi ob Co R n : Nat) (rb Cr : Nat → Nat) (F' : Nat → Nat → Cl) (w w' : World) : Prop := RG w' lo hi ob Co R n rb Cr F' ∧ Chg (Iv lo hi) w w'

theorem RG.loose {w : World} {lo hi ob Co R n : Nat} {rb Cr : Nat → Nat} {F : Nat → Nat → Cl} (h : RG w lo hi ob Co R n rb Cr F) {r c C : Nat} (hr : r < R) (hc : c < n) :
    Calls Tryd.prog 51 #[.slice (some ⟨rb r, 0, none⟩) n C, .int .i64 c] w fun e w' => (∃ v, e = .returned v) ∧ RowR lo hi ob Co R n rb Cr (updR F r (looseG (F r) c)) w w' := by
  obtain ⟨cs, hA, K⟩ := h.rowAt hr
  refine (looseR_row hA hc).mono ?_
  rintro e w' ⟨hv, cs', hB, hO, hI, hC⟩
  exact ⟨hv, K w' cs' _ hB hO hI (wf_loose hA.wf hc) hC, hC.mono fun k _ e => e ▸ ⟨(h.b1 r hr).1, (h.b1 r hr).2.1⟩⟩

set_option maxHeartbeats 1000000 in
theorem eraseR_in {w : World} {lo hi ob Co R n : Nat} {rb Cr : Nat → Nat} {F : Nat → Nat → Cl} (h : RG w lo hi ob Co R n rb Cr F) {r c : Nat} (hr : r < R) (hc : c < n) :
    Calls Tryd.prog 27 #[gv ob R Co, .int .i64 r, .int .i64 c] w fun e w' => (∃ v, e = .returned v) ∧ RowR lo hi ob Co R n rb Cr (updR F r (er (F r) c (n - c))) w w' := by
  have H := Lib.hid h
  have hn := h.n2
  have hR := h.r2
  have hcap := h.cap
  clear h
  go_enter Tryd.func27, Tryd.ntmps27
  go_wp2_with fail
  go_loopw [2] (fun i wr => ∃ k : Nat, c + k ≤ n ∧ i = .int .i64 ((c + k : Nat) : Int) ∧ Hid (RowR lo hi ob Co R n rb Cr (updR F r (er (F r) c k)) w wr)) (fun i _ => n - (intOf i).toNat)
  case atStart => exact ⟨0, by omega, rfl, ⟨by rw [show er (F r) c 0 = F r from rfl, updR_self]; exact H.out, Chg.refl _ _⟩⟩
  case round =>
    obtain ⟨k, hk, rfl, HR⟩ := hrel
    obtain ⟨E, hE⟩ : ∃ E, c + k = E := ⟨_, rfl⟩
    have HE := Lib.hid hE
    rw [hE] at hk ⊢
    clear hE
    by_cases hlt : E < n
    · have C1 := Lib.hid (in_yes HR.out.1 hr hlt)
      have l := HR.out.1.out r hr
      go_wp2_with fail
      refine C1.out.mono ?_
      rintro e w1 ⟨rfl, rfl⟩
      go_wp2_with fail
      refine (HR.out.1.loose hr hlt).mono ?_
      rintro e w2 ⟨⟨v, rfl⟩, h2⟩
      have H2 := Lib.hid (And.intro h2.1 (HR.out.2.trans h2.2))
      clear h2 l C1
      go_wp2_with fail
      go_roundw
      case rel =>
        refine ⟨k + 1, by have := HE.out; omega, by have := HE.out; congr 1; omega, ⟨?_, H2.out.2⟩⟩
        have := H2.out.1
        rw [updR_updR, updR_same] at this
        rw [← HE.out] at this
        exact this
      case measure => simp [intOf]; omega
    · obtain rfl : E = n := by omega
      have C1 := Lib.hid (in_no HR.out.1 (r := r) (c := E) (by omega))
      go_wp2_with fail
      refine C1.out.mono ?_
      rintro e w1 ⟨rfl, rfl⟩
      go_wp2_with fail
      obtain rfl : k = E - c := by have := HE.out; omega
      exact bodyPost_end (results_none rfl _ _ _) rfl ⟨⟨_, rfl⟩, HR.out⟩

/-! ### Put -/
set_option maxHeartbeats 1000000 in
theorem putR_no {w : World} {p : Value} {r c wd : Int} {t : ByteArray} (h : TellsIn w p r c false) :
    Calls Tryd.prog 29 #[p, .int .i64 r, .int .i64 c, .agg #[.string t, .int .i64 wd]] w fun e w' => e = .returned (.bool false) ∧ Below w.heap.size w w' := by
  have H1 := Lib.hid h
  clear h
  go_enter Tryd.func29, Tryd.ntmps29
  go_wp2_with fail
  refine at_calls (fun X => Below w.heap.size w X) ((Below.refl _ _).alloc (Nat.le_refl _) _) ?_
  intro X hX
  have HX := Lib.hid hX
  refine (H1.out X hX).mono ?_
  rintro e w1 ⟨rfl, rfl⟩
  clear hX
  go_wp2
  go_ret
  exact ⟨rfl, HX.out⟩

set_option maxHeartbeats 1000000 in
theorem putR_bad {w : World} {p : Value} {r c wd : Int} {t : ByteArray} (h : TellsIn w p r c true) (h1 : wd ≠ 1) (h2 : wd ≠ 2) :
    Calls Tryd.prog 29 #[p, .int .i64 r, .int .i64 c, .agg #[.string t, .int .i64 wd]] w fun e w' => e = .returned (.bool false) ∧ Below w.heap.size w w' := by
  have H1 := Lib.hid h
  have d1 : (wd == 1) = false := by simpa using h1
  have d2 : (wd == 2) = false := by simpa using h2
  clear h
  go_enter Tryd.func29, Tryd.ntmps29
  go_wp2_with fail
  refine at_calls (fun X => Below w.heap.size w X ∧ Blk X w.heap.size #[.string t, .int .i64 wd]) ⟨(Below.refl _ _).alloc (Nat.le_refl _) _, blk_new _ _ _⟩ ?_
  rintro X ⟨hX, hB⟩
  have HX := Lib.hid hX
  have l1 := hB.2.1 1
  simp at l1
  refine (H1.out X hX).mono ?_
  rintro e w1 ⟨rfl, rfl⟩
  clear hX hB
  go_wp2
  go_ret
  exact ⟨rfl, HX.out⟩

set_option maxHeartbeats 1000000 in
theorem putR_far {w : World} {p : Value} {r : Int} {c E : Nat} {t : ByteArray} (h : TellsIn w p r c true) (h' : TellsIn w p r E false) (hE : c + 1 = E) (hc : c ≤ 1000000) :
    Calls Tryd.prog 29 #[p, .int .i64 r, .int .i64 c, .agg #[.string t, .int .i64 2]] w fun e w' => e = .returned (.bool false) ∧ Below w.heap.size w w' := by
  have H1 := Lib.hid h
  have H2 := Lib.hid h'
  have e1 : (c : Int) + 1 = (E : Int) := by omega
  clear h h' hE
  go_enter Tryd.func29, Tryd.ntmps29
  go_wp2_with fail
  refine at_calls (fun X => Below w.heap.size w X ∧ Blk X w.heap.size #[.string t, .int .i64 2]) ⟨(Below.refl _ _).alloc (Nat.le_refl _) _, blk_new _ _ _⟩ ?_
  rintro X ⟨hX, hB⟩
  have HX := Lib.hid hX
  have l1 := hB.2.1 1
  simp at l1
  refine (H1.out X hX).mono ?_
  rintro e w1 ⟨rfl, rfl⟩
  clear hX hB
  go_wp2_with fail
  refine (H2.out X HX.out).mono ?_
  rintro e w1 ⟨rfl, rfl⟩
  go_wp2
  go_ret
  exact ⟨rfl, HX.out⟩
end Go.Proofs.YtednedklkbjihaaDoor
