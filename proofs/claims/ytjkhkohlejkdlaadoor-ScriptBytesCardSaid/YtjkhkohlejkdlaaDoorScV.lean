/- script: ScriptBytes' walk. -/
import Derived.Test.YtjkhkohlejkdlaaDoorScU
namespace Go.Proofs.YtjkhkohlejkdlaaDoor
open Go.RowKit
set_option linter.unusedVariables false
set_option linter.unusedSimpArgs false

theorem bytesP_len (l : List UInt8) : (bytesP l).length = l.length := by unfold bytesP; simp
set_option maxRecDepth 100000 in
set_option maxHeartbeats 8000000 in
theorem walk_ScriptBytes (W : World) (hT : TabW W.heap.size W) (s : ByteArray) : Calls Tryd.prog 6 #[.string s] W (YesO W) := by
  have HT := Lib.hid hT
  clear hT
  by_cases hn : 2000 < s.size
  · have hni : (2000 : Int) < (s.size : Int) := by omega
    obtain ⟨u, hu⟩ : ∃ u, s.extract 0 2000 = u := ⟨_, rfl⟩
    have hus : u.size = 2000 := by rw [← hu, ByteArray.size_extract]; omega
    have husz : u.size ≤ 2000 := by omega
    have HU := Lib.hid hus
    clear hus
    have hsz : u.data.toList.length = u.size := Array.length_toList
    have C := Lib.hid (bytes_any u (by omega) W)
    clear hn
    go_enter Tryd.func6, Tryd.ntmps6
    go_wp2_with fail
    refine C.out.mono ?_
    rintro e w1 ⟨A, c, rfl, hL, hb⟩
    have HB := Lib.hid hb
    have HL := Lib.hid (hL.parts.2.1)
    have hcap := hL.parts.2.2.2.1
    rw [bytesP_len, hsz] at hcap
    clear hL hb C hu hni HU
    have e0 : ((u.size : Int) != (u.size : Int)) = false := by simp
    go_wp2
    go_loopw [4] (fun i wr => ∃ k : Nat, k ≤ u.size ∧ i = .int .i64 (k : Nat) ∧ Hid (∃ q, wr = w1.drewN q)) (fun i _ => u.size - (intOf i).toNat)
    case atStart => exact ⟨0, Nat.zero_le _, rfl, Lib.hid ⟨0, rfl⟩⟩
    case round =>
      obtain ⟨k, hk, rfl, H⟩ := hrel
      obtain ⟨q, hw⟩ := H.out
      clear H
      by_cases hlt : k < u.size
      · have hki : (k : Int) < (u.size : Int) := by omega
        have hk0 : (0 : Int) ≤ (k : Int) := by omega
        have hlk := HL.out.later (below_drewN (Below.refl _ _) q)
        rw [← hw] at hlk
        obtain ⟨x, b, o, hx, rfl, hbl, c0, c1, c2, c3⟩ := hlk.evt (j := k) (by rw [bytesP_len, hsz]; exact hlt)
        have hx' : x = ⟨1, ((u[k]'hlt).toNat : Nat), 0, 0⟩ := by
          unfold bytesP at hx
          rw [List.getElem?_map, byte_at u hlt] at hx
          injection hx with hx
          exact hx.symm
        subst hx'
        have hq := neq_evt ⟨1, ((u[k]'hlt).toNat : Nat), 0, 0⟩ ⟨1, ((u[k]'hlt).toNat : Nat), 0, 0⟩
        simp only [decide_true, Bool.not_true] at hq
        have HW := Lib.hid hw
        clear hlk hx hw
        go_wp2
        go_quiet (fail)
        go_wp2
        go_roundw
        case rel => exact ⟨k + 1, by omega, by go_num, Lib.hid ⟨_, by rw [HW.out]; exact World.drewN_drewN _ _ _⟩⟩
        case measure => simp [intOf]; omega
      · obtain rfl : k = u.size := by omega
        have hd : decide ((u.size : Int) < (u.size : Int)) = false := by simp
        have hbw : Below W.heap.size W wr := by rw [hw]; exact below_drewN HB.out q
        have C5 := Lib.hid (awake_yes wr (tabW_next HT.out (Nat.le_refl _) hbw))
        have HW := Lib.hid hbw
        clear hw hbw
        go_wp2_with fail
        refine C5.out.mono ?_
        rintro e w5 ⟨rfl, b5⟩
        have H5 := Lib.hid (below_next HW.out b5)
        clear b5 C5
        go_wp2_with fail
        go_ret
        exact ⟨rfl, H5.out⟩
  · have hni : ¬ (2000 : Int) < (s.size : Int) := by omega
    have husz : s.size ≤ 2000 := by omega
    have HU := Lib.hid husz
    have hsz : s.data.toList.length = s.size := Array.length_toList
    have C := Lib.hid (bytes_any s (by omega) W)
    clear hn
    go_enter Tryd.func6, Tryd.ntmps6
    go_wp2_with fail
    refine C.out.mono ?_
    rintro e w1 ⟨A, c, rfl, hL, hb⟩
    have HB := Lib.hid hb
    have HL := Lib.hid (hL.parts.2.1)
    have hcap := hL.parts.2.2.2.1
    rw [bytesP_len, hsz] at hcap
    clear hL hb C hni HU
    have e0 : ((s.size : Int) != (s.size : Int)) = false := by simp
    go_wp2
    go_loopw [4] (fun i wr => ∃ k : Nat, k ≤ s.size ∧ i = .int .i64 (k : Nat) ∧ Hid (∃ q, wr = w1.drewN q)) (fun i _ => s.size - (intOf i).toNat)
    case atStart => exact ⟨0, Nat.zero_le _, rfl, Lib.hid ⟨0, rfl⟩⟩
    case round =>
      obtain ⟨k, hk, rfl, H⟩ := hrel
      obtain ⟨q, hw⟩ := H.out
      clear H
      by_cases hlt : k < s.size
      · have hki : (k : Int) < (s.size : Int) := by omega
        have hk0 : (0 : Int) ≤ (k : Int) := by omega
        have hlk := HL.out.later (below_drewN (Below.refl _ _) q)
        rw [← hw] at hlk
        obtain ⟨x, b, o, hx, rfl, hbl, c0, c1, c2, c3⟩ := hlk.evt (j := k) (by rw [bytesP_len, hsz]; exact hlt)
        have hx' : x = ⟨1, ((s[k]'hlt).toNat : Nat), 0, 0⟩ := by
          unfold bytesP at hx
          rw [List.getElem?_map, byte_at s hlt] at hx
          injection hx with hx
          exact hx.symm
        subst hx'
        have hq := neq_evt ⟨1, ((s[k]'hlt).toNat : Nat), 0, 0⟩ ⟨1, ((s[k]'hlt).toNat : Nat), 0, 0⟩
        simp only [decide_true, Bool.not_true] at hq
        have HW := Lib.hid hw
        clear hlk hx hw
        go_wp2
        go_quiet (fail)
        go_wp2
        go_roundw
        case rel => exact ⟨k + 1, by omega, by go_num, Lib.hid ⟨_, by rw [HW.out]; exact World.drewN_drewN _ _ _⟩⟩
        case measure => simp [intOf]; omega
      · obtain rfl : k = s.size := by omega
        have hd : decide ((s.size : Int) < (s.size : Int)) = false := by simp
        have hbw : Below W.heap.size W wr := by rw [hw]; exact below_drewN HB.out q
        have C5 := Lib.hid (awake_yes wr (tabW_next HT.out (Nat.le_refl _) hbw))
        have HW := Lib.hid hbw
        clear hw hbw
        go_wp2_with fail
        refine C5.out.mono ?_
        rintro e w5 ⟨rfl, b5⟩
        have H5 := Lib.hid (below_next HW.out b5)
        clear b5 C5
        go_wp2_with fail
        go_ret
        exact ⟨rfl, H5.out⟩
end Go.Proofs.YtjkhkohlejkdlaaDoor
