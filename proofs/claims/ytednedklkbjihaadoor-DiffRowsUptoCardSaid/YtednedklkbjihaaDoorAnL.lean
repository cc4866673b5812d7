/- ansi: awake. -/
import Derived.Test.YtednedklkbjihaaDoorAnK
namespace Go.Proofs.YtednedklkbjihaaDoor
open Go.RowKit
set_option linter.unusedVariables false
set_option linter.unusedSimpArgs false

theorem ba_eq {x : ByteArray} {l : List UInt8} (h : x.data.toList = l) : x = ⟨l.toArray⟩ := by
  apply ByteArray.ext
  rw [← h]
theorem aw1 : putS 2 0 4 ⟨#[]⟩ = ⟨#[27, 91, 49, 59, 53, 72]⟩ := ba_eq (by decide +kernel)
theorem aw2 : allS (wayL 2 7 2 0) = ⟨#[13]⟩ := by
  have : allB (wayL 2 7 2 0) = [13] := by decide +kernel
  unfold allS
  rw [this]
theorem aw3 : allS (wayL 2 7 2 8) = ⟨#[27, 91, 67]⟩ := by
  have : allB (wayL 2 7 2 8) = [27, 91, 67] := by decide +kernel
  unfold allS
  rw [this]
theorem goL_fit {a b c d : Int} (a0 : 0 ≤ a) (a1 : a ≤ 100000) (b0 : 0 ≤ b) (b1 : b ≤ 100000) (c0 : 0 ≤ c) (c1 : c ≤ 100000) (d0 : 0 ≤ d) (d1 : d ≤ 100000) : (∀ x ∈ wayL a b c d, Fit 0 x) ∧ (wayL a b c d).length ≤ 10 := by
  have h1 := byL_fit (c - a) 11 10 (by omega) (by omega)
  have h2 := byL_fit (d - b) 8 9 (by omega) (by omega)
  have hm : (∀ x ∈ moveL c d, Fit 0 x) ∧ (moveL c d).length ≤ 10 := ⟨moveL_fit c d c0 c1 d0 d1, show 1 ≤ 10 by omega⟩
  have hg : (∀ x ∈ goL a b c d, Fit 0 x) ∧ (goL a b c d).length ≤ 10 := ⟨app_fit h1.2 h2.2, by unfold goL; rw [List.length_append]; omega⟩
  have hb : (∀ x ∈ bkL a b c d, Fit 0 x) ∧ (bkL a b c d).length ≤ 10 := ⟨app_fit h1.2 backL_fit, by unfold bkL; rw [List.length_append]; show _ + 1 ≤ 10; omega⟩
  have h3 : (∀ x ∈ way2L a b c d, Fit 0 x) ∧ (way2L a b c d).length ≤ 10 := by
    rw [way2L_eq]
    split
    · exact hg
    · exact hm
  unfold wayL
  split
  · rw [way3L_eq]
    split
    · exact hb
    · exact h3
  · exact h3
theorem all_at (A : Option Addr) (n c : Nat) (L : List Ob) (X : World) (S : Nat → Prop) (h : LiV 4 encO X S (.slice A n c) L) (hF : ∀ x ∈ L, Fit 0 x) (hl : L.length ≤ 10) (hT : TabW X.heap.size X) : Calls Tryd.prog 19 #[.slice A n c] X fun e w' => e = .returned (.string (allS L)) ∧ Below X.heap.size X w' := by
  obtain ⟨rfl, hli, _⟩ := h.parts
  exact all_any A c L X (hli.mono fun _ _ => trivial) 0 hF (by omega) hT

set_option maxRecDepth 100000 in
set_option maxHeartbeats 4000000 in
theorem awake_yes (w : World) (hT : TabW w.heap.size w) : Calls Tryd.prog 15 #[] w (YesO w) := by
  have HT := Lib.hid hT
  have F1 := Lib.hid (goL_fit (a := 2) (b := 7) (c := 2) (d := 0) (by omega) (by omega) (by omega) (by omega) (by omega) (by omega) (by omega) (by omega))
  have F2 := Lib.hid (goL_fit (a := 2) (b := 7) (c := 2) (d := 8) (by omega) (by omega) (by omega) (by omega) (by omega) (by omega) (by omega) (by omega))
  have C1 := Lib.hid (way_any 2 7 2 0 w hT (by omega) (by omega) (by omega) (by omega) (by omega) (by omega) (by omega) (by omega))
  clear hT
  go_enter Tryd.func15, Tryd.ntmps15
  go_wp2_with fail
  refine C1.out.mono ?_
  rintro e w1 ⟨A, n, c, rfl, h1, b1⟩
  have H1 := Lib.hid (And.intro h1 b1)
  clear h1 b1
  have C2 := Lib.hid (put_any (w := w1) 2 0 4 ⟨#[]⟩ (tabW_next HT.out (Nat.le_refl _) H1.out.2) (by omega) (by omega))
  rw [aw1] at C2
  go_wp2_with fail
  refine C2.out.mono ?_
  rintro e w2 ⟨rfl, b2⟩
  have H2 := Lib.hid (And.intro (H1.out.1.later b2) (belowStepA H1.out.2 b2))
  clear H1 C1 C2 b2
  have C3 := Lib.hid (all_at _ _ _ _ w2 _ H2.out.1 F1.out.1 F1.out.2 (tabW_next HT.out (Nat.le_refl _) H2.out.2))
  rw [aw2] at C3
  go_wp2_with fail
  refine C3.out.mono ?_
  rintro e w3 ⟨rfl, b3⟩
  have H3 := Lib.hid (belowStepA H2.out.2 b3)
  clear H2 b3 C3
  have C4 := Lib.hid (way_any 2 7 2 8 w3 (tabW_next HT.out (Nat.le_refl _) H3.out) (by omega) (by omega) (by omega) (by omega) (by omega) (by omega) (by omega) (by omega))
  go_wp2_with fail
  refine C4.out.mono ?_
  rintro e w4 ⟨A4, n4, c4, rfl, h4, b4⟩
  have H4 := Lib.hid (And.intro h4 (belowStepA H3.out b4))
  clear h4 b4 H3 C4
  have C5 := Lib.hid (all_at _ _ _ _ w4 _ H4.out.1 F2.out.1 F2.out.2 (tabW_next HT.out (Nat.le_refl _) H4.out.2))
  rw [aw3] at C5
  go_wp2_with fail
  refine C5.out.mono ?_
  rintro e w5 ⟨rfl, b5⟩
  have H5 := Lib.hid (belowStepA H4.out.2 b5)
  clear H4 b5 C5
  go_wp2_with fail
  go_ret
  exact ⟨rfl, H5.out⟩
end Go.Proofs.YtednedklkbjihaaDoor
