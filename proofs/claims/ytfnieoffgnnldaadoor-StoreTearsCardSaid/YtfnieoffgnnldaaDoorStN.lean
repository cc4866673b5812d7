/- store: StoreReads' walk. -/
import Derived.Test.YtfnieoffgnnldaaDoorStM
namespace Go.Proofs.YtfnieoffgnnldaaDoor
open Go.RowKit
set_option linter.unusedVariables false
set_option linter.unusedSimpArgs false

set_option maxRecDepth 100000 in
set_option maxHeartbeats 8000000 in
theorem walk_StoreReads (W : World) (hM : MaxW W) (s : ByteArray) : Calls Tryd.prog 4 #[.string s] W (YesO W) := by
  have HM := Lib.hid hM
  clear hM
  by_cases hn : 600 < s.size
  · have hni : (600 : Int) < (s.size : Int) := by omega
    have hni2 : (600 : Int) ≤ (s.size : Int) := by omega
    obtain ⟨u, hu⟩ : ∃ u, s.extract 0 600 = u := ⟨_, rfl⟩
    have husz : u.size ≤ 600 := by rw [← hu, ByteArray.size_extract]; omega
    clear hn
    have C1 := Lib.hid (Read_any u (by omega) W HM.out)
    have C2 := Lib.hid (fun X => rRead_any u (by omega) X)
    obtain ⟨R, hR⟩ : ∃ R, rdL [] 0 (bts u) = R := ⟨_, rfl⟩
    have hRl : R.length ≤ 600 := by
      have := rdL_len (bts u) [] 0
      rw [hR, bts_length] at this
      omega
    rw [hR] at C1 C2
    clear hR husz
    have C3 := Lib.hid (fun (a b : Value) X (ha : Txts X a (R.map (·.1))) (hb : Txts X b (R.map (·.1))) => sametexts_yes a b _ X ha hb (by rw [List.length_map]; omega))
    obtain ⟨M, hM⟩ : ∃ M, R.map (·.1) = M := ⟨_, rfl⟩
    obtain ⟨n, hn⟩ : ∃ n, R.length = n := ⟨_, rfl⟩
    obtain ⟨z, hz⟩ : ∃ z, lastE R = z := ⟨_, rfl⟩
    rw [hM, hn, hz] at C1 C2
    rw [hM] at C3
    clear hM hn hz hRl
    have e9 : ((z : Int) == (z : Int)) = true := by simp
    go_enter Tryd.func4, Tryd.ntmps4
    go_wp2_with fail
    refine C1.out.mono ?_
    rintro e w1 ⟨A, c, rfl, h1, b1⟩
    have H1 := Lib.hid (And.intro h1 b1)
    clear h1 b1 C1
    dsimp only
    go_wp2_with fail
    refine (C2.out w1).mono ?_
    rintro e w2 ⟨B, d, rfl, h2, b2⟩
    have H2 := Lib.hid (And.intro (H1.out.1.later b2) (And.intro h2 (below_next H1.out.2 b2)))
    clear h2 b2 C2 H1
    dsimp only
    go_wp2_with fail
    refine (C3.out _ _ w2 H2.out.1 H2.out.2.1).mono ?_
    rintro e w3 ⟨rfl, b3⟩
    have H3 := Lib.hid (below_next H2.out.2.2 b3)
    clear b3 C3
    have C4 := Lib.hid (awake_yes w3 (HM.out.later H3.out))
    go_wp2_with fail
    refine C4.out.mono ?_
    rintro e w4 ⟨rfl, b4⟩
    have H4 := Lib.hid (below_next H3.out b4)
    clear b4 C4
    go_wp2_with fail
    go_ret
    exact ⟨rfl, H4.out⟩
  · have hni : ¬ (600 : Int) < (s.size : Int) := by omega
    have husz : s.size ≤ 600 := by omega
    clear hn
    have C1 := Lib.hid (Read_any s (by omega) W HM.out)
    have C2 := Lib.hid (fun X => rRead_any s (by omega) X)
    obtain ⟨R, hR⟩ : ∃ R, rdL [] 0 (bts s) = R := ⟨_, rfl⟩
    have hRl : R.length ≤ 600 := by
      have := rdL_len (bts s) [] 0
      rw [hR, bts_length] at this
      omega
    rw [hR] at C1 C2
    clear hR husz
    have C3 := Lib.hid (fun (a b : Value) X (ha : Txts X a (R.map (·.1))) (hb : Txts X b (R.map (·.1))) => sametexts_yes a b _ X ha hb (by rw [List.length_map]; omega))
    obtain ⟨M, hM⟩ : ∃ M, R.map (·.1) = M := ⟨_, rfl⟩
    obtain ⟨n, hn⟩ : ∃ n, R.length = n := ⟨_, rfl⟩
    obtain ⟨z, hz⟩ : ∃ z, lastE R = z := ⟨_, rfl⟩
    rw [hM, hn, hz] at C1 C2
    rw [hM] at C3
    clear hM hn hz hRl
    have e9 : ((z : Int) == (z : Int)) = true := by simp
    go_enter Tryd.func4, Tryd.ntmps4
    go_wp2_with fail
    refine C1.out.mono ?_
    rintro e w1 ⟨A, c, rfl, h1, b1⟩
    have H1 := Lib.hid (And.intro h1 b1)
    clear h1 b1 C1
    dsimp only
    go_wp2_with fail
    refine (C2.out w1).mono ?_
    rintro e w2 ⟨B, d, rfl, h2, b2⟩
    have H2 := Lib.hid (And.intro (H1.out.1.later b2) (And.intro h2 (below_next H1.out.2 b2)))
    clear h2 b2 C2 H1
    dsimp only
    go_wp2_with fail
    refine (C3.out _ _ w2 H2.out.1 H2.out.2.1).mono ?_
    rintro e w3 ⟨rfl, b3⟩
    have H3 := Lib.hid (below_next H2.out.2.2 b3)
    clear b3 C3
    have C4 := Lib.hid (awake_yes w3 (HM.out.later H3.out))
    go_wp2_with fail
    refine C4.out.mono ?_
    rintro e w4 ⟨rfl, b4⟩
    have H4 := Lib.hid (below_next H3.out b4)
    clear b4 C4
    go_wp2_with fail
    go_ret
    exact ⟨rfl, H4.out⟩
end Go.Proofs.YtfnieoffgnnldaaDoor
