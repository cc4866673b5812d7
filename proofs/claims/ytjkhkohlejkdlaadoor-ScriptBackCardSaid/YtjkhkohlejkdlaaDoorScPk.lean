/- script: ScriptBack's walk. -/
import Derived.Test.YtjkhkohlejkdlaaDoorScPh
namespace Go.Proofs.YtjkhkohlejkdlaaDoor
open Go.RowKit
set_option linter.unusedVariables false
set_option linter.unusedSimpArgs false

set_option maxRecDepth 100000 in
set_option maxHeartbeats 16000000 in
theorem walk_ScriptBack (W : World) (hT : TabW W.heap.size W) (A : Option Addr) (c : Nat) (L : List Evt) (hL : EvIn W A c L) (s : ByteArray) : Calls Tryd.prog 5 #[.slice A L.length c, .string s] W (YesO W) := by
  have HT := Lib.hid hT
  have hcap := hL.li.parts.2.2.2
  obtain ⟨N, hN⟩ : ∃ N, L.length = N := ⟨_, rfl⟩
  rw [hN] at hcap ⊢
  obtain ⟨hc1, hc2⟩ := hcap
  by_cases h : 500 < N
  · have hi : (500 : Int) < (N : Int) := by omega
    have hic : (500 : Int) ≤ (c : Int) := by omega
    obtain ⟨hE, hM⟩ := hL.first (n := 500) (by omega)
    obtain ⟨M, hMM⟩ : ∃ M, L.take 500 = M := ⟨_, rfl⟩
    rw [hMM] at hE hM
    have HE := Lib.hid hE
    have HMN := Lib.hid hM
    have C1 := Lib.hid (print_any A c M W hT hE.li hE.byt)
    rw [hM] at C1
    obtain ⟨pr, hpr⟩ : ∃ x, printS M = x := ⟨_, rfl⟩
    rw [hpr] at C1
    have HPR := Lib.hid hpr
    clear hL hT hE hMM hN hpr hM
    by_cases hn : 3000 < s.size
    · have hni : (3000 : Int) < (s.size : Int) := by omega
      obtain ⟨u, hu⟩ : ∃ u, s.extract 0 3000 = u := ⟨_, rfl⟩
      have husz : u.size ≤ 3000 := by rw [← hu, ByteArray.size_extract]; omega
      clear hn
      go_enter Tryd.func5, Tryd.ntmps5
      go_wp2_with fail
      refine C1.out.mono ?_
      rintro e w1 ⟨rfl, b1⟩
      have H1 := Lib.hid b1
      clear b1 C1 hu hni
      obtain ⟨sl, sz⟩ := pr
      dsimp only
      by_cases hz : sz = 0
      · subst hz
        obtain ⟨hp, hsl⟩ := back_one (by rw [HMN.out]; omega) HE.out.byt (printS_ok (by rw [HMN.out]; omega) HPR.out)
        have C2 := Lib.hid (parse_any (ba sl) (by rw [ba_size]; omega) w1 (tabW_next HT.out (Nat.le_refl _) H1.out))
        rw [ba_list, hp] at C2
        have hmb : (M.map bareE).length = 500 := by rw [List.length_map, HMN.out]
        have C3 := Lib.hid (fun X (hX : Below W.heap.size W X) => bare_any A c M X (by rw [HMN.out]; omega) (HE.out.li.later hX))
        rw [HMN.out] at C3
        obtain ⟨Mb, hMb⟩ : ∃ x, M.map bareE = x := ⟨_, rfl⟩
        rw [hMb] at C2 C3 hmb
        have HMb := Lib.hid hmb
        obtain ⟨S1, hS1⟩ : ∃ S, ba sl = S := ⟨_, rfl⟩
        rw [hS1] at C2 ⊢
        clear hp hsl hMb hmb hS1
        go_wp2_with fail
        refine C2.out.mono ?_
        rintro e w2 ⟨⟨B2, d2, rfl, h2, -⟩, b2⟩
        have H2 := Lib.hid (And.intro (LiV.mono h2 fun _ _ => trivial : LiV 4 encE w2 (fun _ => True) _ Mb) (below_next H1.out b2))
        clear h2 b2 C2
        dsimp only at H2 ⊢
        rw [HMb.out] at H2 ⊢
        go_wp2_with fail
        refine (C3.out w2 H2.out.2).mono ?_
        rintro e w3 ⟨B3, d3, rfl, h3, b3⟩
        have H3 := Lib.hid (below_next H2.out.2 b3)
        have C4 := Lib.hid (rsame_any B2 B3 d2 d3 Mb Mb w3 (by have := H2.out.1.later b3; rw [HMb.out]; exact this) (by rw [HMb.out]; exact LiV.mono h3 fun _ _ => trivial))
        rw [decide_eq_true rfl, HMb.out] at C4
        clear h3 b3 C3
        go_wp2_with fail
        refine C4.out.mono ?_
        rintro e wX ⟨rfl, k4, hk4⟩
        have HX := Lib.hid (show Below W.heap.size W wX by rw [hk4]; exact below_drewN H3.out k4)
        clear hk4 C4
        have C5 := Lib.hid (parse_any u (by omega) wX (tabW_next HT.out (Nat.le_refl _) HX.out))
        obtain ⟨R, hR⟩ : ∃ R, parseP u.data.toList = R := ⟨_, rfl⟩
        rw [hR] at C5
        obtain ⟨m, xn, f⟩ := R
        have HR := Lib.hid hR
        clear hR
        go_wp2_with fail
        refine C5.out.mono ?_
        rintro e w5 ⟨⟨B5, d5, rfl, h5, -⟩, b5⟩
        have H5 := Lib.hid (And.intro (LiV.mono h5 fun _ _ => trivial : LiV 4 encE w5 (fun _ => True) _ m) (below_next HX.out b5))
        clear h5 b5 C5
        dsimp only at H5 ⊢
        by_cases hf : f = 0
        · subst hf
          obtain ⟨hb, hml, s2, hp2, hs2, hq2⟩ := back_two (by rw [Array.length_toList]; exact husz) HR.out
          have C6 := Lib.hid (print_any B5 d5 m w5 (tabW_next HT.out (Nat.le_refl _) H5.out.2) H5.out.1 hb)
          rw [hp2] at C6
          have HQ2 := Lib.hid (And.intro hq2 hs2)
          obtain ⟨Nm, hNm⟩ : ∃ N, m.length = N := ⟨_, rfl⟩
          have HNm := Lib.hid hNm
          rw [hNm] at C6 ⊢
          clear hb hml hp2 hs2 hq2 hNm
          go_wp2_with fail
          refine C6.out.mono ?_
          rintro e w6 ⟨rfl, b6⟩
          have H6 := Lib.hid (And.intro (H5.out.1.later b6) (below_next H5.out.2 b6))
          clear b6 C6
          have C7 := Lib.hid (parse_any (ba s2) (by rw [ba_size]; have := HQ2.out.2; omega) w6 (tabW_next HT.out (Nat.le_refl _) H6.out.2))
          rw [ba_list, HQ2.out.1] at C7
          obtain ⟨S2, hS2⟩ : ∃ S, ba s2 = S := ⟨_, rfl⟩
          dsimp only
          rw [hS2] at C7 ⊢
          clear hS2
          go_wp2_with fail
          refine C7.out.mono ?_
          rintro e w7 ⟨⟨B7, d7, rfl, h7, -⟩, b7⟩
          have h7' : LiV 4 encE w7 (fun _ => True) (.slice B7 m.length d7) m := LiV.mono h7 fun _ _ => trivial
          have H7 := Lib.hid (below_next H6.out.2 b7)
          have C8 := Lib.hid (rsame_any B5 B7 d5 d7 m m w7 (by have := H6.out.1.later b7; exact this) h7')
          rw [decide_eq_true rfl] at C8
          dsimp only
          rw [HNm.out] at C8 ⊢
          clear h7 h7' b7 C7
          go_wp2_with fail
          refine C8.out.mono ?_
          rintro e w8 ⟨rfl, k8, hk8⟩
          have H8 := Lib.hid (show Below W.heap.size W w8 by rw [hk8]; exact below_drewN H7.out k8)
          clear hk8 C8
          have C9 := Lib.hid (awake_yes w8 (tabW_next HT.out (Nat.le_refl _) H8.out))
          go_wp2_with fail
          refine C9.out.mono ?_
          rintro e w9 ⟨rfl, b9⟩
          have H9 := Lib.hid (below_next H8.out b9)
          clear b9 C9
          go_wp2_with fail
          go_ret
          exact ⟨rfl, H9.out⟩
        · have ef : (f != 0) = true := by simpa using hf
          have C9 := Lib.hid (awake_yes w5 (tabW_next HT.out (Nat.le_refl _) H5.out.2))
          clear hf
          go_wp2_with fail
          refine C9.out.mono ?_
          rintro e w9 ⟨rfl, b9⟩
          have H9 := Lib.hid (below_next H5.out.2 b9)
          clear b9 C9
          go_wp2_with fail
          go_ret
          exact ⟨rfl, H9.out⟩
      · have ez : (sz == 0) = false := by simpa using hz
        obtain ⟨S1, hS1⟩ : ∃ S, ba sl = S := ⟨_, rfl⟩
        rw [hS1]
        clear hS1 hz
        have HX := H1
        have C5 := Lib.hid (parse_any u (by omega) w1 (tabW_next HT.out (Nat.le_refl _) HX.out))
        obtain ⟨R, hR⟩ : ∃ R, parseP u.data.toList = R := ⟨_, rfl⟩
        rw [hR] at C5
        obtain ⟨m, xn, f⟩ := R
        have HR := Lib.hid hR
        clear hR
        go_wp2_with fail
        refine C5.out.mono ?_
        rintro e w5 ⟨⟨B5, d5, rfl, h5, -⟩, b5⟩
        have H5 := Lib.hid (And.intro (LiV.mono h5 fun _ _ => trivial : LiV 4 encE w5 (fun _ => True) _ m) (below_next HX.out b5))
        clear h5 b5 C5
        dsimp only at H5 ⊢
        by_cases hf : f = 0
        · subst hf
          obtain ⟨hb, hml, s2, hp2, hs2, hq2⟩ := back_two (by rw [Array.length_toList]; exact husz) HR.out
          have C6 := Lib.hid (print_any B5 d5 m w5 (tabW_next HT.out (Nat.le_refl _) H5.out.2) H5.out.1 hb)
          rw [hp2] at C6
          have HQ2 := Lib.hid (And.intro hq2 hs2)
          obtain ⟨Nm, hNm⟩ : ∃ N, m.length = N := ⟨_, rfl⟩
          have HNm := Lib.hid hNm
          rw [hNm] at C6 ⊢
          clear hb hml hp2 hs2 hq2 hNm
          go_wp2_with fail
          refine C6.out.mono ?_
          rintro e w6 ⟨rfl, b6⟩
          have H6 := Lib.hid (And.intro (H5.out.1.later b6) (below_next H5.out.2 b6))
          clear b6 C6
          have C7 := Lib.hid (parse_any (ba s2) (by rw [ba_size]; have := HQ2.out.2; omega) w6 (tabW_next HT.out (Nat.le_refl _) H6.out.2))
          rw [ba_list, HQ2.out.1] at C7
          obtain ⟨S2, hS2⟩ : ∃ S, ba s2 = S := ⟨_, rfl⟩
          dsimp only
          rw [hS2] at C7 ⊢
          clear hS2
          go_wp2_with fail
          refine C7.out.mono ?_
          rintro e w7 ⟨⟨B7, d7, rfl, h7, -⟩, b7⟩
          have h7' : LiV 4 encE w7 (fun _ => True) (.slice B7 m.length d7) m := LiV.mono h7 fun _ _ => trivial
          have H7 := Lib.hid (below_next H6.out.2 b7)
          have C8 := Lib.hid (rsame_any B5 B7 d5 d7 m m w7 (by have := H6.out.1.later b7; exact this) h7')
          rw [decide_eq_true rfl] at C8
          dsimp only
          rw [HNm.out] at C8 ⊢
          clear h7 h7' b7 C7
          go_wp2_with fail
          refine C8.out.mono ?_
          rintro e w8 ⟨rfl, k8, hk8⟩
          have H8 := Lib.hid (show Below W.heap.size W w8 by rw [hk8]; exact below_drewN H7.out k8)
          clear hk8 C8
          have C9 := Lib.hid (awake_yes w8 (tabW_next HT.out (Nat.le_refl _) H8.out))
          go_wp2_with fail
          refine C9.out.mono ?_
          rintro e w9 ⟨rfl, b9⟩
          have H9 := Lib.hid (below_next H8.out b9)
          clear b9 C9
          go_wp2_with fail
          go_ret
          exact ⟨rfl, H9.out⟩
        · have ef : (f != 0) = true := by simpa using hf
          have C9 := Lib.hid (awake_yes w5 (tabW_next HT.out (Nat.le_refl _) H5.out.2))
          clear hf
          go_wp2_with fail
          refine C9.out.mono ?_
          rintro e w9 ⟨rfl, b9⟩
          have H9 := Lib.hid (below_next H5.out.2 b9)
          clear b9 C9
          go_wp2_with fail
          go_ret
          exact ⟨rfl, H9.out⟩
    · have hni : ¬ (3000 : Int) < (s.size : Int) := by omega
      have husz : s.size ≤ 3000 := by omega
      clear hn
      go_enter Tryd.func5, Tryd.ntmps5
      go_wp2_with fail
      refine C1.out.mono ?_
      rintro e w1 ⟨rfl, b1⟩
      have H1 := Lib.hid b1
      clear b1 C1 hni
      obtain ⟨sl, sz⟩ := pr
      dsimp only
      by_cases hz : sz = 0
      · subst hz
        obtain ⟨hp, hsl⟩ := back_one (by rw [HMN.out]; omega) HE.out.byt (printS_ok (by rw [HMN.out]; omega) HPR.out)
        have C2 := Lib.hid (parse_any (ba sl) (by rw [ba_size]; omega) w1 (tabW_next HT.out (Nat.le_refl _) H1.out))
        rw [ba_list, hp] at C2
        have hmb : (M.map bareE).length = 500 := by rw [List.length_map, HMN.out]
        have C3 := Lib.hid (fun X (hX : Below W.heap.size W X) => bare_any A c M X (by rw [HMN.out]; omega) (HE.out.li.later hX))
        rw [HMN.out] at C3
        obtain ⟨Mb, hMb⟩ : ∃ x, M.map bareE = x := ⟨_, rfl⟩
        rw [hMb] at C2 C3 hmb
        have HMb := Lib.hid hmb
        obtain ⟨S1, hS1⟩ : ∃ S, ba sl = S := ⟨_, rfl⟩
        rw [hS1] at C2 ⊢
        clear hp hsl hMb hmb hS1
        go_wp2_with fail
        refine C2.out.mono ?_
        rintro e w2 ⟨⟨B2, d2, rfl, h2, -⟩, b2⟩
        have H2 := Lib.hid (And.intro (LiV.mono h2 fun _ _ => trivial : LiV 4 encE w2 (fun _ => True) _ Mb) (below_next H1.out b2))
        clear h2 b2 C2
        dsimp only at H2 ⊢
        rw [HMb.out] at H2 ⊢
        go_wp2_with fail
        refine (C3.out w2 H2.out.2).mono ?_
        rintro e w3 ⟨B3, d3, rfl, h3, b3⟩
        have H3 := Lib.hid (below_next H2.out.2 b3)
        have C4 := Lib.hid (rsame_any B2 B3 d2 d3 Mb Mb w3 (by have := H2.out.1.later b3; rw [HMb.out]; exact this) (by rw [HMb.out]; exact LiV.mono h3 fun _ _ => trivial))
        rw [decide_eq_true rfl, HMb.out] at C4
        clear h3 b3 C3
        go_wp2_with fail
        refine C4.out.mono ?_
        rintro e wX ⟨rfl, k4, hk4⟩
        have HX := Lib.hid (show Below W.heap.size W wX by rw [hk4]; exact below_drewN H3.out k4)
        clear hk4 C4
        have C5 := Lib.hid (parse_any s (by omega) wX (tabW_next HT.out (Nat.le_refl _) HX.out))
        obtain ⟨R, hR⟩ : ∃ R, parseP s.data.toList = R := ⟨_, rfl⟩
        rw [hR] at C5
        obtain ⟨m, xn, f⟩ := R
        have HR := Lib.hid hR
        clear hR
        go_wp2_with fail
        refine C5.out.mono ?_
        rintro e w5 ⟨⟨B5, d5, rfl, h5, -⟩, b5⟩
        have H5 := Lib.hid (And.intro (LiV.mono h5 fun _ _ => trivial : LiV 4 encE w5 (fun _ => True) _ m) (below_next HX.out b5))
        clear h5 b5 C5
        dsimp only at H5 ⊢
        by_cases hf : f = 0
        · subst hf
          obtain ⟨hb, hml, s2, hp2, hs2, hq2⟩ := back_two (by rw [Array.length_toList]; exact husz) HR.out
          have C6 := Lib.hid (print_any B5 d5 m w5 (tabW_next HT.out (Nat.le_refl _) H5.out.2) H5.out.1 hb)
          rw [hp2] at C6
          have HQ2 := Lib.hid (And.intro hq2 hs2)
          obtain ⟨Nm, hNm⟩ : ∃ N, m.length = N := ⟨_, rfl⟩
          have HNm := Lib.hid hNm
          rw [hNm] at C6 ⊢
          clear hb hml hp2 hs2 hq2 hNm
          go_wp2_with fail
          refine C6.out.mono ?_
          rintro e w6 ⟨rfl, b6⟩
          have H6 := Lib.hid (And.intro (H5.out.1.later b6) (below_next H5.out.2 b6))
          clear b6 C6
          have C7 := Lib.hid (parse_any (ba s2) (by rw [ba_size]; have := HQ2.out.2; omega) w6 (tabW_next HT.out (Nat.le_refl _) H6.out.2))
          rw [ba_list, HQ2.out.1] at C7
          obtain ⟨S2, hS2⟩ : ∃ S, ba s2 = S := ⟨_, rfl⟩
          dsimp only
          rw [hS2] at C7 ⊢
          clear hS2
          go_wp2_with fail
          refine C7.out.mono ?_
          rintro e w7 ⟨⟨B7, d7, rfl, h7, -⟩, b7⟩
          have h7' : LiV 4 encE w7 (fun _ => True) (.slice B7 m.length d7) m := LiV.mono h7 fun _ _ => trivial
          have H7 := Lib.hid (below_next H6.out.2 b7)
          have C8 := Lib.hid (rsame_any B5 B7 d5 d7 m m w7 (by have := H6.out.1.later b7; exact this) h7')
          rw [decide_eq_true rfl] at C8
          dsimp only
          rw [HNm.out] at C8 ⊢
          clear h7 h7' b7 C7
          go_wp2_with fail
          refine C8.out.mono ?_
          rintro e w8 ⟨rfl, k8, hk8⟩
          have H8 := Lib.hid (show Below W.heap.size W w8 by rw [hk8]; exact below_drewN H7.out k8)
          clear hk8 C8
          have C9 := Lib.hid (awake_yes w8 (tabW_next HT.out (Nat.le_refl _) H8.out))
          go_wp2_with fail
          refine C9.out.mono ?_
          rintro e w9 ⟨rfl, b9⟩
          have H9 := Lib.hid (below_next H8.out b9)
          clear b9 C9
          go_wp2_with fail
          go_ret
          exact ⟨rfl, H9.out⟩
        · have ef : (f != 0) = true := by simpa using hf
          have C9 := Lib.hid (awake_yes w5 (tabW_next HT.out (Nat.le_refl _) H5.out.2))
          clear hf
          go_wp2_with fail
          refine C9.out.mono ?_
          rintro e w9 ⟨rfl, b9⟩
          have H9 := Lib.hid (below_next H5.out.2 b9)
          clear b9 C9
          go_wp2_with fail
          go_ret
          exact ⟨rfl, H9.out⟩
      · have ez : (sz == 0) = false := by simpa using hz
        obtain ⟨S1, hS1⟩ : ∃ S, ba sl = S := ⟨_, rfl⟩
        rw [hS1]
        clear hS1 hz
        have HX := H1
        have C5 := Lib.hid (parse_any s (by omega) w1 (tabW_next HT.out (Nat.le_refl _) HX.out))
        obtain ⟨R, hR⟩ : ∃ R, parseP s.data.toList = R := ⟨_, rfl⟩
        rw [hR] at C5
        obtain ⟨m, xn, f⟩ := R
        have HR := Lib.hid hR
        clear hR
        go_wp2_with fail
        refine C5.out.mono ?_
        rintro e w5 ⟨⟨B5, d5, rfl, h5, -⟩, b5⟩
        have H5 := Lib.hid (And.intro (LiV.mono h5 fun _ _ => trivial : LiV 4 encE w5 (fun _ => True) _ m) (below_next HX.out b5))
        clear h5 b5 C5
        dsimp only at H5 ⊢
        by_cases hf : f = 0
        · subst hf
          obtain ⟨hb, hml, s2, hp2, hs2, hq2⟩ := back_two (by rw [Array.length_toList]; exact husz) HR.out
          have C6 := Lib.hid (print_any B5 d5 m w5 (tabW_next HT.out (Nat.le_refl _) H5.out.2) H5.out.1 hb)
          rw [hp2] at C6
          have HQ2 := Lib.hid (And.intro hq2 hs2)
          obtain ⟨Nm, hNm⟩ : ∃ N, m.length = N := ⟨_, rfl⟩
          have HNm := Lib.hid hNm
          rw [hNm] at C6 ⊢
          clear hb hml hp2 hs2 hq2 hNm
          go_wp2_with fail
          refine C6.out.mono ?_
          rintro e w6 ⟨rfl, b6⟩
          have H6 := Lib.hid (And.intro (H5.out.1.later b6) (below_next H5.out.2 b6))
          clear b6 C6
          have C7 := Lib.hid (parse_any (ba s2) (by rw [ba_size]; have := HQ2.out.2; omega) w6 (tabW_next HT.out (Nat.le_refl _) H6.out.2))
          rw [ba_list, HQ2.out.1] at C7
          obtain ⟨S2, hS2⟩ : ∃ S, ba s2 = S := ⟨_, rfl⟩
          dsimp only
          rw [hS2] at C7 ⊢
          clear hS2
          go_wp2_with fail
          refine C7.out.mono ?_
          rintro e w7 ⟨⟨B7, d7, rfl, h7, -⟩, b7⟩
          have h7' : LiV 4 encE w7 (fun _ => True) (.slice B7 m.length d7) m := LiV.mono h7 fun _ _ => trivial
          have H7 := Lib.hid (below_next H6.out.2 b7)
          have C8 := Lib.hid (rsame_any B5 B7 d5 d7 m m w7 (by have := H6.out.1.later b7; exact this) h7')
          rw [decide_eq_true rfl] at C8
          dsimp only
          rw [HNm.out] at C8 ⊢
          clear h7 h7' b7 C7
          go_wp2_with fail
          refine C8.out.mono ?_
          rintro e w8 ⟨rfl, k8, hk8⟩
          have H8 := Lib.hid (show Below W.heap.size W w8 by rw [hk8]; exact below_drewN H7.out k8)
          clear hk8 C8
          have C9 := Lib.hid (awake_yes w8 (tabW_next HT.out (Nat.le_refl _) H8.out))
          go_wp2_with fail
          refine C9.out.mono ?_
          rintro e w9 ⟨rfl, b9⟩
          have H9 := Lib.hid (below_next H8.out b9)
          clear b9 C9
          go_wp2_with fail
          go_ret
          exact ⟨rfl, H9.out⟩
        · have ef : (f != 0) = true := by simpa using hf
          have C9 := Lib.hid (awake_yes w5 (tabW_next HT.out (Nat.le_refl _) H5.out.2))
          clear hf
          go_wp2_with fail
          refine C9.out.mono ?_
          rintro e w9 ⟨rfl, b9⟩
          have H9 := Lib.hid (below_next H5.out.2 b9)
          clear b9 C9
          go_wp2_with fail
          go_ret
          exact ⟨rfl, H9.out⟩
  · have hi : ¬ (500 : Int) < (N : Int) := by omega
    have C1 := Lib.hid (print_any A c L W hT hL.li hL.byt)
    have HE := Lib.hid hL
    have HMN := Lib.hid hN
    rw [hN] at C1
    obtain ⟨pr, hpr⟩ : ∃ x, printS L = x := ⟨_, rfl⟩
    rw [hpr] at C1
    have HPR := Lib.hid hpr
    clear hL hT hN hpr
    by_cases hn : 3000 < s.size
    · have hni : (3000 : Int) < (s.size : Int) := by omega
      obtain ⟨u, hu⟩ : ∃ u, s.extract 0 3000 = u := ⟨_, rfl⟩
      have husz : u.size ≤ 3000 := by rw [← hu, ByteArray.size_extract]; omega
      clear hn
      go_enter Tryd.func5, Tryd.ntmps5
      go_wp2_with fail
      refine C1.out.mono ?_
      rintro e w1 ⟨rfl, b1⟩
      have H1 := Lib.hid b1
      clear b1 C1 hu hni
      obtain ⟨sl, sz⟩ := pr
      dsimp only
      by_cases hz : sz = 0
      · subst hz
        obtain ⟨hp, hsl⟩ := back_one (by rw [HMN.out]; omega) HE.out.byt (printS_ok (by rw [HMN.out]; omega) HPR.out)
        have C2 := Lib.hid (parse_any (ba sl) (by rw [ba_size]; omega) w1 (tabW_next HT.out (Nat.le_refl _) H1.out))
        rw [ba_list, hp] at C2
        have hmb : (L.map bareE).length = N := by rw [List.length_map, HMN.out]
        have C3 := Lib.hid (fun X (hX : Below W.heap.size W X) => bare_any A c L X (by rw [HMN.out]; omega) (HE.out.li.later hX))
        rw [HMN.out] at C3
        obtain ⟨Mb, hMb⟩ : ∃ x, L.map bareE = x := ⟨_, rfl⟩
        rw [hMb] at C2 C3 hmb
        have HMb := Lib.hid hmb
        obtain ⟨S1, hS1⟩ : ∃ S, ba sl = S := ⟨_, rfl⟩
        rw [hS1] at C2 ⊢
        clear hp hsl hMb hmb hS1
        go_wp2_with fail
        refine C2.out.mono ?_
        rintro e w2 ⟨⟨B2, d2, rfl, h2, -⟩, b2⟩
        have H2 := Lib.hid (And.intro (LiV.mono h2 fun _ _ => trivial : LiV 4 encE w2 (fun _ => True) _ Mb) (below_next H1.out b2))
        clear h2 b2 C2
        dsimp only at H2 ⊢
        rw [HMb.out] at H2 ⊢
        go_wp2_with fail
        refine (C3.out w2 H2.out.2).mono ?_
        rintro e w3 ⟨B3, d3, rfl, h3, b3⟩
        have H3 := Lib.hid (below_next H2.out.2 b3)
        have C4 := Lib.hid (rsame_any B2 B3 d2 d3 Mb Mb w3 (by have := H2.out.1.later b3; rw [HMb.out]; exact this) (by rw [HMb.out]; exact LiV.mono h3 fun _ _ => trivial))
        rw [decide_eq_true rfl, HMb.out] at C4
        clear h3 b3 C3
        go_wp2_with fail
        refine C4.out.mono ?_
        rintro e wX ⟨rfl, k4, hk4⟩
        have HX := Lib.hid (show Below W.heap.size W wX by rw [hk4]; exact below_drewN H3.out k4)
        clear hk4 C4
        have C5 := Lib.hid (parse_any u (by omega) wX (tabW_next HT.out (Nat.le_refl _) HX.out))
        obtain ⟨R, hR⟩ : ∃ R, parseP u.data.toList = R := ⟨_, rfl⟩
        rw [hR] at C5
        obtain ⟨m, xn, f⟩ := R
        have HR := Lib.hid hR
        clear hR
        go_wp2_with fail
        refine C5.out.mono ?_
        rintro e w5 ⟨⟨B5, d5, rfl, h5, -⟩, b5⟩
        have H5 := Lib.hid (And.intro (LiV.mono h5 fun _ _ => trivial : LiV 4 encE w5 (fun _ => True) _ m) (below_next HX.out b5))
        clear h5 b5 C5
        dsimp only at H5 ⊢
        by_cases hf : f = 0
        · subst hf
          obtain ⟨hb, hml, s2, hp2, hs2, hq2⟩ := back_two (by rw [Array.length_toList]; exact husz) HR.out
          have C6 := Lib.hid (print_any B5 d5 m w5 (tabW_next HT.out (Nat.le_refl _) H5.out.2) H5.out.1 hb)
          rw [hp2] at C6
          have HQ2 := Lib.hid (And.intro hq2 hs2)
          obtain ⟨Nm, hNm⟩ : ∃ N, m.length = N := ⟨_, rfl⟩
          have HNm := Lib.hid hNm
          rw [hNm] at C6 ⊢
          clear hb hml hp2 hs2 hq2 hNm
          go_wp2_with fail
          refine C6.out.mono ?_
          rintro e w6 ⟨rfl, b6⟩
          have H6 := Lib.hid (And.intro (H5.out.1.later b6) (below_next H5.out.2 b6))
          clear b6 C6
          have C7 := Lib.hid (parse_any (ba s2) (by rw [ba_size]; have := HQ2.out.2; omega) w6 (tabW_next HT.out (Nat.le_refl _) H6.out.2))
          rw [ba_list, HQ2.out.1] at C7
          obtain ⟨S2, hS2⟩ : ∃ S, ba s2 = S := ⟨_, rfl⟩
          dsimp only
          rw [hS2] at C7 ⊢
          clear hS2
          go_wp2_with fail
          refine C7.out.mono ?_
          rintro e w7 ⟨⟨B7, d7, rfl, h7, -⟩, b7⟩
          have h7' : LiV 4 encE w7 (fun _ => True) (.slice B7 m.length d7) m := LiV.mono h7 fun _ _ => trivial
          have H7 := Lib.hid (below_next H6.out.2 b7)
          have C8 := Lib.hid (rsame_any B5 B7 d5 d7 m m w7 (by have := H6.out.1.later b7; exact this) h7')
          rw [decide_eq_true rfl] at C8
          dsimp only
          rw [HNm.out] at C8 ⊢
          clear h7 h7' b7 C7
          go_wp2_with fail
          refine C8.out.mono ?_
          rintro e w8 ⟨rfl, k8, hk8⟩
          have H8 := Lib.hid (show Below W.heap.size W w8 by rw [hk8]; exact below_drewN H7.out k8)
          clear hk8 C8
          have C9 := Lib.hid (awake_yes w8 (tabW_next HT.out (Nat.le_refl _) H8.out))
          go_wp2_with fail
          refine C9.out.mono ?_
          rintro e w9 ⟨rfl, b9⟩
          have H9 := Lib.hid (below_next H8.out b9)
          clear b9 C9
          go_wp2_with fail
          go_ret
          exact ⟨rfl, H9.out⟩
        · have ef : (f != 0) = true := by simpa using hf
          have C9 := Lib.hid (awake_yes w5 (tabW_next HT.out (Nat.le_refl _) H5.out.2))
          clear hf
          go_wp2_with fail
          refine C9.out.mono ?_
          rintro e w9 ⟨rfl, b9⟩
          have H9 := Lib.hid (below_next H5.out.2 b9)
          clear b9 C9
          go_wp2_with fail
          go_ret
          exact ⟨rfl, H9.out⟩
      · have ez : (sz == 0) = false := by simpa using hz
        obtain ⟨S1, hS1⟩ : ∃ S, ba sl = S := ⟨_, rfl⟩
        rw [hS1]
        clear hS1 hz
        have HX := H1
        have C5 := Lib.hid (parse_any u (by omega) w1 (tabW_next HT.out (Nat.le_refl _) HX.out))
        obtain ⟨R, hR⟩ : ∃ R, parseP u.data.toList = R := ⟨_, rfl⟩
        rw [hR] at C5
        obtain ⟨m, xn, f⟩ := R
        have HR := Lib.hid hR
        clear hR
        go_wp2_with fail
        refine C5.out.mono ?_
        rintro e w5 ⟨⟨B5, d5, rfl, h5, -⟩, b5⟩
        have H5 := Lib.hid (And.intro (LiV.mono h5 fun _ _ => trivial : LiV 4 encE w5 (fun _ => True) _ m) (below_next HX.out b5))
        clear h5 b5 C5
        dsimp only at H5 ⊢
        by_cases hf : f = 0
        · subst hf
          obtain ⟨hb, hml, s2, hp2, hs2, hq2⟩ := back_two (by rw [Array.length_toList]; exact husz) HR.out
          have C6 := Lib.hid (print_any B5 d5 m w5 (tabW_next HT.out (Nat.le_refl _) H5.out.2) H5.out.1 hb)
          rw [hp2] at C6
          have HQ2 := Lib.hid (And.intro hq2 hs2)
          obtain ⟨Nm, hNm⟩ : ∃ N, m.length = N := ⟨_, rfl⟩
          have HNm := Lib.hid hNm
          rw [hNm] at C6 ⊢
          clear hb hml hp2 hs2 hq2 hNm
          go_wp2_with fail
          refine C6.out.mono ?_
          rintro e w6 ⟨rfl, b6⟩
          have H6 := Lib.hid (And.intro (H5.out.1.later b6) (below_next H5.out.2 b6))
          clear b6 C6
          have C7 := Lib.hid (parse_any (ba s2) (by rw [ba_size]; have := HQ2.out.2; omega) w6 (tabW_next HT.out (Nat.le_refl _) H6.out.2))
          rw [ba_list, HQ2.out.1] at C7
          obtain ⟨S2, hS2⟩ : ∃ S, ba s2 = S := ⟨_, rfl⟩
          dsimp only
          rw [hS2] at C7 ⊢
          clear hS2
          go_wp2_with fail
          refine C7.out.mono ?_
          rintro e w7 ⟨⟨B7, d7, rfl, h7, -⟩, b7⟩
          have h7' : LiV 4 encE w7 (fun _ => True) (.slice B7 m.length d7) m := LiV.mono h7 fun _ _ => trivial
          have H7 := Lib.hid (below_next H6.out.2 b7)
          have C8 := Lib.hid (rsame_any B5 B7 d5 d7 m m w7 (by have := H6.out.1.later b7; exact this) h7')
          rw [decide_eq_true rfl] at C8
          dsimp only
          rw [HNm.out] at C8 ⊢
          clear h7 h7' b7 C7
          go_wp2_with fail
          refine C8.out.mono ?_
          rintro e w8 ⟨rfl, k8, hk8⟩
          have H8 := Lib.hid (show Below W.heap.size W w8 by rw [hk8]; exact below_drewN H7.out k8)
          clear hk8 C8
          have C9 := Lib.hid (awake_yes w8 (tabW_next HT.out (Nat.le_refl _) H8.out))
          go_wp2_with fail
          refine C9.out.mono ?_
          rintro e w9 ⟨rfl, b9⟩
          have H9 := Lib.hid (below_next H8.out b9)
          clear b9 C9
          go_wp2_with fail
          go_ret
          exact ⟨rfl, H9.out⟩
        · have ef : (f != 0) = true := by simpa using hf
          have C9 := Lib.hid (awake_yes w5 (tabW_next HT.out (Nat.le_refl _) H5.out.2))
          clear hf
          go_wp2_with fail
          refine C9.out.mono ?_
          rintro e w9 ⟨rfl, b9⟩
          have H9 := Lib.hid (below_next H5.out.2 b9)
          clear b9 C9
          go_wp2_with fail
          go_ret
          exact ⟨rfl, H9.out⟩
    · have hni : ¬ (3000 : Int) < (s.size : Int) := by omega
      have husz : s.size ≤ 3000 := by omega
      clear hn
      go_enter Tryd.func5, Tryd.ntmps5
      go_wp2_with fail
      refine C1.out.mono ?_
      rintro e w1 ⟨rfl, b1⟩
      have H1 := Lib.hid b1
      clear b1 C1 hni
      obtain ⟨sl, sz⟩ := pr
      dsimp only
      by_cases hz : sz = 0
      · subst hz
        obtain ⟨hp, hsl⟩ := back_one (by rw [HMN.out]; omega) HE.out.byt (printS_ok (by rw [HMN.out]; omega) HPR.out)
        have C2 := Lib.hid (parse_any (ba sl) (by rw [ba_size]; omega) w1 (tabW_next HT.out (Nat.le_refl _) H1.out))
        rw [ba_list, hp] at C2
        have hmb : (L.map bareE).length = N := by rw [List.length_map, HMN.out]
        have C3 := Lib.hid (fun X (hX : Below W.heap.size W X) => bare_any A c L X (by rw [HMN.out]; omega) (HE.out.li.later hX))
        rw [HMN.out] at C3
        obtain ⟨Mb, hMb⟩ : ∃ x, L.map bareE = x := ⟨_, rfl⟩
        rw [hMb] at C2 C3 hmb
        have HMb := Lib.hid hmb
        obtain ⟨S1, hS1⟩ : ∃ S, ba sl = S := ⟨_, rfl⟩
        rw [hS1] at C2 ⊢
        clear hp hsl hMb hmb hS1
        go_wp2_with fail
        refine C2.out.mono ?_
        rintro e w2 ⟨⟨B2, d2, rfl, h2, -⟩, b2⟩
        have H2 := Lib.hid (And.intro (LiV.mono h2 fun _ _ => trivial : LiV 4 encE w2 (fun _ => True) _ Mb) (below_next H1.out b2))
        clear h2 b2 C2
        dsimp only at H2 ⊢
        rw [HMb.out] at H2 ⊢
        go_wp2_with fail
        refine (C3.out w2 H2.out.2).mono ?_
        rintro e w3 ⟨B3, d3, rfl, h3, b3⟩
        have H3 := Lib.hid (below_next H2.out.2 b3)
        have C4 := Lib.hid (rsame_any B2 B3 d2 d3 Mb Mb w3 (by have := H2.out.1.later b3; rw [HMb.out]; exact this) (by rw [HMb.out]; exact LiV.mono h3 fun _ _ => trivial))
        rw [decide_eq_true rfl, HMb.out] at C4
        clear h3 b3 C3
        go_wp2_with fail
        refine C4.out.mono ?_
        rintro e wX ⟨rfl, k4, hk4⟩
        have HX := Lib.hid (show Below W.heap.size W wX by rw [hk4]; exact below_drewN H3.out k4)
        clear hk4 C4
        have C5 := Lib.hid (parse_any s (by omega) wX (tabW_next HT.out (Nat.le_refl _) HX.out))
        obtain ⟨R, hR⟩ : ∃ R, parseP s.data.toList = R := ⟨_, rfl⟩
        rw [hR] at C5
        obtain ⟨m, xn, f⟩ := R
        have HR := Lib.hid hR
        clear hR
        go_wp2_with fail
        refine C5.out.mono ?_
        rintro e w5 ⟨⟨B5, d5, rfl, h5, -⟩, b5⟩
        have H5 := Lib.hid (And.intro (LiV.mono h5 fun _ _ => trivial : LiV 4 encE w5 (fun _ => True) _ m) (below_next HX.out b5))
        clear h5 b5 C5
        dsimp only at H5 ⊢
        by_cases hf : f = 0
        · subst hf
          obtain ⟨hb, hml, s2, hp2, hs2, hq2⟩ := back_two (by rw [Array.length_toList]; exact husz) HR.out
          have C6 := Lib.hid (print_any B5 d5 m w5 (tabW_next HT.out (Nat.le_refl _) H5.out.2) H5.out.1 hb)
          rw [hp2] at C6
          have HQ2 := Lib.hid (And.intro hq2 hs2)
          obtain ⟨Nm, hNm⟩ : ∃ N, m.length = N := ⟨_, rfl⟩
          have HNm := Lib.hid hNm
          rw [hNm] at C6 ⊢
          clear hb hml hp2 hs2 hq2 hNm
          go_wp2_with fail
          refine C6.out.mono ?_
          rintro e w6 ⟨rfl, b6⟩
          have H6 := Lib.hid (And.intro (H5.out.1.later b6) (below_next H5.out.2 b6))
          clear b6 C6
          have C7 := Lib.hid (parse_any (ba s2) (by rw [ba_size]; have := HQ2.out.2; omega) w6 (tabW_next HT.out (Nat.le_refl _) H6.out.2))
          rw [ba_list, HQ2.out.1] at C7
          obtain ⟨S2, hS2⟩ : ∃ S, ba s2 = S := ⟨_, rfl⟩
          dsimp only
          rw [hS2] at C7 ⊢
          clear hS2
          go_wp2_with fail
          refine C7.out.mono ?_
          rintro e w7 ⟨⟨B7, d7, rfl, h7, -⟩, b7⟩
          have h7' : LiV 4 encE w7 (fun _ => True) (.slice B7 m.length d7) m := LiV.mono h7 fun _ _ => trivial
          have H7 := Lib.hid (below_next H6.out.2 b7)
          have C8 := Lib.hid (rsame_any B5 B7 d5 d7 m m w7 (by have := H6.out.1.later b7; exact this) h7')
          rw [decide_eq_true rfl] at C8
          dsimp only
          rw [HNm.out] at C8 ⊢
          clear h7 h7' b7 C7
          go_wp2_with fail
          refine C8.out.mono ?_
          rintro e w8 ⟨rfl, k8, hk8⟩
          have H8 := Lib.hid (show Below W.heap.size W w8 by rw [hk8]; exact below_drewN H7.out k8)
          clear hk8 C8
          have C9 := Lib.hid (awake_yes w8 (tabW_next HT.out (Nat.le_refl _) H8.out))
          go_wp2_with fail
          refine C9.out.mono ?_
          rintro e w9 ⟨rfl, b9⟩
          have H9 := Lib.hid (below_next H8.out b9)
          clear b9 C9
          go_wp2_with fail
          go_ret
          exact ⟨rfl, H9.out⟩
        · have ef : (f != 0) = true := by simpa using hf
          have C9 := Lib.hid (awake_yes w5 (tabW_next HT.out (Nat.le_refl _) H5.out.2))
          clear hf
          go_wp2_with fail
          refine C9.out.mono ?_
          rintro e w9 ⟨rfl, b9⟩
          have H9 := Lib.hid (below_next H5.out.2 b9)
          clear b9 C9
          go_wp2_with fail
          go_ret
          exact ⟨rfl, H9.out⟩
      · have ez : (sz == 0) = false := by simpa using hz
        obtain ⟨S1, hS1⟩ : ∃ S, ba sl = S := ⟨_, rfl⟩
        rw [hS1]
        clear hS1 hz
        have HX := H1
        have C5 := Lib.hid (parse_any s (by omega) w1 (tabW_next HT.out (Nat.le_refl _) HX.out))
        obtain ⟨R, hR⟩ : ∃ R, parseP s.data.toList = R := ⟨_, rfl⟩
        rw [hR] at C5
        obtain ⟨m, xn, f⟩ := R
        have HR := Lib.hid hR
        clear hR
        go_wp2_with fail
        refine C5.out.mono ?_
        rintro e w5 ⟨⟨B5, d5, rfl, h5, -⟩, b5⟩
        have H5 := Lib.hid (And.intro (LiV.mono h5 fun _ _ => trivial : LiV 4 encE w5 (fun _ => True) _ m) (below_next HX.out b5))
        clear h5 b5 C5
        dsimp only at H5 ⊢
        by_cases hf : f = 0
        · subst hf
          obtain ⟨hb, hml, s2, hp2, hs2, hq2⟩ := back_two (by rw [Array.length_toList]; exact husz) HR.out
          have C6 := Lib.hid (print_any B5 d5 m w5 (tabW_next HT.out (Nat.le_refl _) H5.out.2) H5.out.1 hb)
          rw [hp2] at C6
          have HQ2 := Lib.hid (And.intro hq2 hs2)
          obtain ⟨Nm, hNm⟩ : ∃ N, m.length = N := ⟨_, rfl⟩
          have HNm := Lib.hid hNm
          rw [hNm] at C6 ⊢
          clear hb hml hp2 hs2 hq2 hNm
          go_wp2_with fail
          refine C6.out.mono ?_
          rintro e w6 ⟨rfl, b6⟩
          have H6 := Lib.hid (And.intro (H5.out.1.later b6) (below_next H5.out.2 b6))
          clear b6 C6
          have C7 := Lib.hid (parse_any (ba s2) (by rw [ba_size]; have := HQ2.out.2; omega) w6 (tabW_next HT.out (Nat.le_refl _) H6.out.2))
          rw [ba_list, HQ2.out.1] at C7
          obtain ⟨S2, hS2⟩ : ∃ S, ba s2 = S := ⟨_, rfl⟩
          dsimp only
          rw [hS2] at C7 ⊢
          clear hS2
          go_wp2_with fail
          refine C7.out.mono ?_
          rintro e w7 ⟨⟨B7, d7, rfl, h7, -⟩, b7⟩
          have h7' : LiV 4 encE w7 (fun _ => True) (.slice B7 m.length d7) m := LiV.mono h7 fun _ _ => trivial
          have H7 := Lib.hid (below_next H6.out.2 b7)
          have C8 := Lib.hid (rsame_any B5 B7 d5 d7 m m w7 (by have := H6.out.1.later b7; exact this) h7')
          rw [decide_eq_true rfl] at C8
          dsimp only
          rw [HNm.out] at C8 ⊢
          clear h7 h7' b7 C7
          go_wp2_with fail
          refine C8.out.mono ?_
          rintro e w8 ⟨rfl, k8, hk8⟩
          have H8 := Lib.hid (show Below W.heap.size W w8 by rw [hk8]; exact below_drewN H7.out k8)
          clear hk8 C8
          have C9 := Lib.hid (awake_yes w8 (tabW_next HT.out (Nat.le_refl _) H8.out))
          go_wp2_with fail
          refine C9.out.mono ?_
          rintro e w9 ⟨rfl, b9⟩
          have H9 := Lib.hid (below_next H8.out b9)
          clear b9 C9
          go_wp2_with fail
          go_ret
          exact ⟨rfl, H9.out⟩
        · have ef : (f != 0) = true := by simpa using hf
          have C9 := Lib.hid (awake_yes w5 (tabW_next HT.out (Nat.le_refl _) H5.out.2))
          clear hf
          go_wp2_with fail
          refine C9.out.mono ?_
          rintro e w9 ⟨rfl, b9⟩
          have H9 := Lib.hid (below_next H5.out.2 b9)
          clear b9 C9
          go_wp2_with fail
          go_ret
          exact ⟨rfl, H9.out⟩
end Go.Proofs.YtjkhkohlejkdlaaDoor
