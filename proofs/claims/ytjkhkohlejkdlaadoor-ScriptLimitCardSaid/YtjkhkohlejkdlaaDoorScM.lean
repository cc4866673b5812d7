/- script: the document's line, whole. -/
import Derived.Test.YtjkhkohlejkdlaaDoorScL
namespace Go.Proofs.YtjkhkohlejkdlaaDoor
open Go.RowKit
set_option linter.unusedVariables false
set_option linter.unusedSimpArgs false

theorem str_none {s : ByteArray} (h : s.size = 0) : s.toList = [] := by
  rw [ByteArray.toList_eq]
  have : s.data.toList.length = s.size := Array.length_toList
  exact List.eq_nil_of_length_eq_zero (by omega)
set_option maxHeartbeats 4000000 in
theorem rline_any (s : ByteArray) (hs : s.size ≤ 1000000) (w : World) : Calls Tryd.prog 20 #[.string s] w fun e w' => LineOut w w' (lineE s.data.toList) e := by
  have hsz : s.data.toList.length = s.size := Array.length_toList
  by_cases h00 : 0 < s.size
  · have hne : s.data.toList ≠ [] := fun e => by rw [e] at hsz; simp at hsz; omega
    obtain ⟨e4, e5⟩ := str_some h00
    have d0 : (0 : Int) < (s.size : Int) := by omega
    by_cases h0 : (s[0]'h00).toNat = 35
    · have hR : lineE s.data.toList = some [] := by
        unfold lineE
        rw [if_pos (.inr (by rw [byte_is s h00]; exact h0))]
      rw [hR]
      have d1 : (((s[0]'h00).toNat : Int) == 35) = true := by simp; omega
      clear h0 hR hne
      go_enter Tryd.func20, Tryd.ntmps20
      go_wp2_with fail
      go_ret2
      exact LineOut.nil rfl (Below.refl _ _)
    · have hR0 : lineE s.data.toList = if s.data.toList = tickT then some [⟨2, 0, 0, 0⟩] else if preB s.data.toList sizeT then sizeE (s.data.toList.drop 5) else if preB s.data.toList bytesT then hexsE (s.data.toList.drop 6) else none := by
        unfold lineE
        rw [if_neg (by rw [byte_is s h00]; exact fun h => h.elim hne h0)]
      rw [hR0]
      clear hR0
      have d1 : (((s[0]'h00).toNat : Int) == 35) = false := by simp; omega
      by_cases ht : s.data.toList = tickT
      · rw [if_pos ht]
        have e3 : (s.toList == [116, 105, 99, 107]) = true := by
          have := str_eq s tickT
          rw [decide_eq_true ht] at this
          exact this
        have HO := Lib.hid (LineOut.one (w := w) (x := ⟨2, 0, 0, 0⟩) rfl)
        clear ht h0 hne
        go_enter Tryd.func20, Tryd.ntmps20
        go_wp2_with fail
        go_ret2
        exact HO.out
      · rw [if_neg ht]
        by_cases hz : preB s.data.toList sizeT = true
        · rw [if_pos hz]
          exact rline_size s hs h00 h0 ht hz w
        · rw [if_neg hz]
          have hz' : preB s.data.toList sizeT = false := by simpa using hz
          have e3 : (s.toList == [116, 105, 99, 107]) = false := by
            have := str_eq s tickT
            rw [decide_eq_false ht] at this
            exact this
          have C1 := Lib.hid (rbegins_any s ⟨#[115, 105, 122, 101, 32]⟩ (by omega) (by decide) w)
          have C2 := Lib.hid (rbegins_any s ⟨#[98, 121, 116, 101, 115, 32]⟩ (by omega) (by decide) w)
          have e1 : preB s.data.toList (ByteArray.mk #[115, 105, 122, 101, 32]).data.toList = false := hz'
          rw [e1] at C1
          clear e1
          by_cases hb : preB s.data.toList bytesT = true
          · rw [if_pos hb]
            have hl6 : 6 ≤ s.size := by have := pre_len hb; rw [hsz] at this; exact this
            have hdl : (s.data.toList.drop 6).length = s.size - 6 := by rw [List.length_drop, hsz]
            by_cases hok : (s.data.toList.drop 6).length = 0 ∨ 64 < (s.data.toList.drop 6).length ∨ (s.data.toList.drop 6).length % 2 ≠ 0
            · have hR : hexsE (s.data.toList.drop 6) = none := by unfold hexsE; rw [if_pos hok]
              rw [hR]
              rw [hdl] at hok
              have e2 : preB s.data.toList (ByteArray.mk #[98, 121, 116, 101, 115, 32]).data.toList = true := hb
              rw [e2] at C2
              clear hR hz hz' hb ht h0 hne hdl e2
              obtain ⟨m, hm⟩ : ∃ m : Int, (s.size : Int).tmod 2 = m := ⟨_, rfl⟩
              have hm2 : m = (s.size % 2 : Nat) := by rw [← hm, Int.tmod_eq_emod_of_nonneg (by omega)]; omega
              by_cases q1 : s.size % 2 = 0
              · have g1 : m = 0 := by omega
                by_cases q2 : s.size < 8
                · have g2 : (s.size : Int) < 8 := by omega
                  clear hok hm2
                  go_enter Tryd.func20, Tryd.ntmps20
                  go_wp2_with fail
                  refine C1.out.mono ?_
                  rintro e w1 ⟨rfl, rfl⟩
                  go_wp2_with fail
                  refine C2.out.mono ?_
                  rintro e w1 ⟨rfl, rfl⟩
                  go_wp2
                  go_ret2
                  exact LineOut.no rfl (Below.refl _ _)
                · have g2 : ¬ (s.size : Int) < 8 := by omega
                  have g3 : (70 : Int) < (s.size : Int) := by omega
                  clear hok hm2
                  go_enter Tryd.func20, Tryd.ntmps20
                  go_wp2_with fail
                  refine C1.out.mono ?_
                  rintro e w1 ⟨rfl, rfl⟩
                  go_wp2_with fail
                  refine C2.out.mono ?_
                  rintro e w1 ⟨rfl, rfl⟩
                  go_wp2
                  go_ret2
                  exact LineOut.no rfl (Below.refl _ _)
              · have g1 : m = 1 := by omega
                have g2 : (m == 0) = false := by simp; omega
                clear hok hm2
                go_enter Tryd.func20, Tryd.ntmps20
                go_wp2_with fail
                refine C1.out.mono ?_
                rintro e w1 ⟨rfl, rfl⟩
                go_wp2_with fail
                refine C2.out.mono ?_
                rintro e w1 ⟨rfl, rfl⟩
                go_wp2
                go_ret2
                exact LineOut.no rfl (Below.refl _ _)
            · have hR : hexsE (s.data.toList.drop 6) = hexE (s.data.toList.drop 6) := by unfold hexsE; rw [if_neg hok]
              rw [hR]
              rw [hdl] at hok
              exact rline_bytes s (by omega) (by omega) (by omega) h00 h0 ht hz' hb w
          · rw [if_neg hb]
            have hb' : preB s.data.toList bytesT = false := by simpa using hb
            have e2 : preB s.data.toList (ByteArray.mk #[98, 121, 116, 101, 115, 32]).data.toList = false := hb'
            rw [e2] at C2
            clear hz hz' hb hb' ht h0 hne e2
            go_enter Tryd.func20, Tryd.ntmps20
            go_wp2_with fail
            refine C1.out.mono ?_
            rintro e w1 ⟨rfl, rfl⟩
            go_wp2_with fail
            refine C2.out.mono ?_
            rintro e w1 ⟨rfl, rfl⟩
            go_wp2
            go_ret2
            exact LineOut.no rfl (Below.refl _ _)
  · have h0 : s.size = 0 := by omega
    have hR : lineE s.data.toList = some [] := by
      unfold lineE
      rw [if_pos (.inl (List.eq_nil_of_length_eq_zero (by omega)))]
    rw [hR]
    have e4 := str_none h0
    clear hR h0 h00
    go_enter Tryd.func20, Tryd.ntmps20
    go_wp2_with fail
    go_ret2
    exact LineOut.nil rfl (Below.refl _ _)
end Go.Proofs.YtjkhkohlejkdlaaDoor
