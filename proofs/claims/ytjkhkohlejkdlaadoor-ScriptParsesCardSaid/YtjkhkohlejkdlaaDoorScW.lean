/- script: ScriptParses' walk. -/
import Derived.Test.YtjkhkohlejkdlaaDoorScU
namespace Go.Proofs.YtjkhkohlejkdlaaDoor
open Go.RowKit
set_option linter.unusedVariables false
set_option linter.unusedSimpArgs false

set_option maxRecDepth 100000 in
set_option maxHeartbeats 8000000 in
theorem walk_ScriptParses (W : World) (hT : TabW W.heap.size W) (s : ByteArray) : Calls Tryd.prog 3 #[.string s] W (YesO W) := by
  have HT := Lib.hid hT
  clear hT
  by_cases hn : 5000 < s.size
  · have hni : (5000 : Int) < (s.size : Int) := by omega
    obtain ⟨u, hu⟩ : ∃ u, s.extract 0 5000 = u := ⟨_, rfl⟩
    have hus : u.size = 5000 := by rw [← hu, ByteArray.size_extract]; omega
    have husz : u.size ≤ 5000 := by omega
    have HU := Lib.hid hus
    clear hus
    have C := Lib.hid (parse_any u (by omega) W HT.out)
    obtain ⟨R, hR⟩ : ∃ R, parseP u.data.toList = R := ⟨_, rfl⟩
    rw [hR] at C
    clear hn
    go_enter Tryd.func3, Tryd.ntmps3
    go_wp2_with fail
    refine C.out.mono ?_
    rintro e w1 ⟨⟨A, c, rfl, hL, hl6⟩, hb⟩
    have H1 := Lib.hid (And.intro hL hb)
    clear hL hb C hu hni
    have C2 := Lib.hid (rparse_any u (by omega) w1)
    rw [hR] at C2
    go_wp2_with fail
    refine C2.out.mono ?_
    rintro e w2 ⟨⟨B, d, rfl, hM, -⟩, hb2⟩
    have H2 := Lib.hid (And.intro ((H1.out.1.later hb2).mono fun _ _ => trivial) (And.intro (hM.mono fun _ _ => trivial) (below_next H1.out.2 hb2)))
    have C3 := Lib.hid (rsame_any A B c d R.1 R.1 w2 H2.out.1 H2.out.2.1)
    rw [decide_eq_true rfl] at C3
    clear hM hb2 C2 HU hR
    have e1 : ((R.2.1 : Int) == (R.2.1 : Int)) = true := by simp
    have e2 : (R.2.2 == R.2.2) = true := by simp
    obtain ⟨rl, rn, rz⟩ := R
    dsimp only at C3 e1 e2 H2 ⊢
    go_wp2_with fail
    refine C3.out.mono ?_
    rintro e w3 ⟨rfl, k, hk⟩
    have hb3 : Below W.heap.size W w3 := by rw [hk]; exact below_drewN H2.out.2.2 k
    have C5 := Lib.hid (awake_yes w3 (tabW_next HT.out (Nat.le_refl _) hb3))
    have H3 := Lib.hid hb3
    clear hk hb3 C3
    go_wp2_with fail
    refine C5.out.mono ?_
    rintro e w5 ⟨rfl, b5⟩
    have H5 := Lib.hid (below_next H3.out b5)
    clear b5 C5
    go_wp2_with fail
    go_ret
    exact ⟨rfl, H5.out⟩
  · have hni : ¬ (5000 : Int) < (s.size : Int) := by omega
    have husz : s.size ≤ 5000 := by omega
    have HU := Lib.hid husz
    have C := Lib.hid (parse_any s (by omega) W HT.out)
    obtain ⟨R, hR⟩ : ∃ R, parseP s.data.toList = R := ⟨_, rfl⟩
    rw [hR] at C
    clear hn
    go_enter Tryd.func3, Tryd.ntmps3
    go_wp2_with fail
    refine C.out.mono ?_
    rintro e w1 ⟨⟨A, c, rfl, hL, hl6⟩, hb⟩
    have H1 := Lib.hid (And.intro hL hb)
    clear hL hb C hni
    have C2 := Lib.hid (rparse_any s (by omega) w1)
    rw [hR] at C2
    go_wp2_with fail
    refine C2.out.mono ?_
    rintro e w2 ⟨⟨B, d, rfl, hM, -⟩, hb2⟩
    have H2 := Lib.hid (And.intro ((H1.out.1.later hb2).mono fun _ _ => trivial) (And.intro (hM.mono fun _ _ => trivial) (below_next H1.out.2 hb2)))
    have C3 := Lib.hid (rsame_any A B c d R.1 R.1 w2 H2.out.1 H2.out.2.1)
    rw [decide_eq_true rfl] at C3
    clear hM hb2 C2 HU hR
    have e1 : ((R.2.1 : Int) == (R.2.1 : Int)) = true := by simp
    have e2 : (R.2.2 == R.2.2) = true := by simp
    obtain ⟨rl, rn, rz⟩ := R
    dsimp only at C3 e1 e2 H2 ⊢
    go_wp2_with fail
    refine C3.out.mono ?_
    rintro e w3 ⟨rfl, k, hk⟩
    have hb3 : Below W.heap.size W w3 := by rw [hk]; exact below_drewN H2.out.2.2 k
    have C5 := Lib.hid (awake_yes w3 (tabW_next HT.out (Nat.le_refl _) hb3))
    have H3 := Lib.hid hb3
    clear hk hb3 C3
    go_wp2_with fail
    refine C5.out.mono ?_
    rintro e w5 ⟨rfl, b5⟩
    have H5 := Lib.hid (below_next H3.out b5)
    clear b5 C5
    go_wp2_with fail
    go_ret
    exact ⟨rfl, H5.out⟩
end Go.Proofs.YtjkhkohlejkdlaaDoor
