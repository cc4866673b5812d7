/- utf: Decode tells what the document's decoding tells. -/
import Derived.Test.YtpfldppoebgfgaaUtfY
import Derived.Test.YtpfldppoebgfgaaUtfV
namespace Go.Proofs.Ytpfldppoebgfgaa
open Go.RowKit
set_option linter.unusedVariables false
set_option linter.unusedSimpArgs false

/-- Scalars in a slice, as what a slice of numbers reads. -/
theorem li_iv (l : List Int) : li l = iv (fun j => l.getD j 0) := rfl

theorem decD_len (s : ByteArray) : (decD (bts s)).length ≤ 2 * s.size + 1 := by
  have h := runD_len (bts s)
  rw [bts_length] at h
  simp only [decD, List.length_append, endD]
  split <;> simp <;> omega

set_option maxHeartbeats 2000000 in
theorem decodes_tail (s : ByteArray) (w : World) (aw : ∀ w, Calls Try.prog 12 #[] w (Yes w)) (h0 : s.size ≤ 5000) (d0 : decide ((5000 : Int) < (s.size : Int)) = false) :
    Calls Try.prog 3 #[.string s] w (Yes w) := by
  have hl := decD_len s
  go_enter Try.func3, Try.ntmps3
  go_wp2_with fail
  refine (decode_any s _ (by omega)).mono ?_
  rintro e w1 ⟨A1, e1, rfl, r1, b1⟩
  go_wp2_with fail
  refine (refdec_any s _ (by omega)).mono ?_
  rintro e w2 ⟨A2, e2, rfl, r2, b2⟩
  go_wp2_with fail
  refine (same_yes A1 A2 _ e1 e2 (fun j => (decD (bts s)).getD j 0) _ (by omega) (r1.later b2) r2).mono ?_
  rintro e w3 ⟨rfl, kq, rfl⟩
  go_wp2_with fail
  refine (aw _).mono ?_
  rintro e w4 ⟨rfl, b4⟩
  go_wp2_with fail
  go_ret
  have q2 := b1.trans (b2.mono b1.size)
  have q3 := below_drewN q2 kq
  exact ⟨rfl, q3.trans (b4.mono q3.size)⟩

set_option maxHeartbeats 2000000 in
theorem decodes_long (s0 : ByteArray) (w : World) (aw : ∀ w, Calls Try.prog 12 #[] w (Yes w)) (h0 : 5000 < s0.size) (d0 : decide ((5000 : Int) < (s0.size : Int)) = true) :
    Calls Try.prog 3 #[.string s0] w (Yes w) := by
  go_enter Try.func3, Try.ntmps3
  go_wp2_with fail
  obtain ⟨s, hs⟩ : ∃ s, s = s0.extract 0 5000 := ⟨_, rfl⟩
  have hsz : s.size ≤ 5000 := by rw [hs, ByteArray.size_extract]; omega
  rw [← hs]
  clear hs h0 d0
  have hl := decD_len s
  refine (decode_any s _ (by omega)).mono ?_
  rintro e w1 ⟨A1, e1, rfl, r1, b1⟩
  go_wp2_with fail
  refine (refdec_any s _ (by omega)).mono ?_
  rintro e w2 ⟨A2, e2, rfl, r2, b2⟩
  go_wp2_with fail
  refine (same_yes A1 A2 _ e1 e2 (fun j => (decD (bts s)).getD j 0) _ (by omega) (r1.later b2) r2).mono ?_
  rintro e w3 ⟨rfl, kq, rfl⟩
  go_wp2_with fail
  refine (aw _).mono ?_
  rintro e w4 ⟨rfl, b4⟩
  go_wp2_with fail
  go_ret
  have q2 := b1.trans (b2.mono b1.size)
  have q3 := below_drewN q2 kq
  exact ⟨rfl, q3.trans (b4.mono q3.size)⟩

theorem walk_UtfDecodes (s : ByteArray) (ws : s.size ≤ maxLen) (w : World) : Calls Try.prog 3 #[.string s] w (Yes w) := by
  by_cases h : s.size ≤ 5000
  · exact decodes_tail s w awake_yes h (by simp; omega)
  · exact decodes_long s w awake_yes (by omega) (by simp; omega)

end Go.Proofs.Ytpfldppoebgfgaa
