/- ansi: AnsiWays' walk. -/
import Derived.Test.YtednedklkbjihaaDoorAnL
namespace Go.Proofs.YtednedklkbjihaaDoor
open Go.RowKit
set_option linter.unusedVariables false
set_option linter.unusedSimpArgs false

theorem nd3 {u : Nat} (h : u < 1000) : Lib.nDigits u ≤ 3 := by
  rw [Lib.nDigits]; split; · omega
  rw [Lib.nDigits]; split; · omega
  rw [Lib.nDigits]; split; · omega
  omega
theorem nd4 {u : Nat} (h : u < 10000) : Lib.nDigits u ≤ 4 := by
  rw [Lib.nDigits]; split; · omega
  have := nd3 (u := u / 10) (by omega)
  omega
theorem dig_len (n : Nat) : (dig n).size = Lib.nDigits n := by
  show (Lib.decDigits n).toArray.size = _
  rw [List.size_toArray, Lib.decDigits_length]
theorem allB_one (x : Ob) : (allB [x]).length = (putO x).size := by
  simp only [allB, List.flatMap_cons, List.flatMap_nil, List.append_nil]
  rw [Array.length_toList]
  rfl
theorem moveL_len {c d : Int} (c0 : 0 ≤ c) (c1 : c < 500) (d0 : 0 ≤ d) (d1 : d < 1000) : 1 ≤ (allB (moveL c d)).length ∧ (allB (moveL c d)).length ≤ 11 := by
  unfold moveL
  rw [allB_one]
  have e : putO ⟨2, c, d, ⟨#[]⟩⟩ = moveS c d := rfl
  rw [e]
  unfold moveS
  rw [size_cat, size_cat, size_cat, size_cat, z1, z2, z2, dig_len, dig_len]
  have h1 := nd3 (u := numN (min c 9999 + 1)) (by unfold numN; omega)
  have h2 := nd4 (u := numN (min d 9999 + 1)) (by unfold numN; omega)
  omega
theorem wayL_len (a b c d : Int) : (allB (wayL a b c d)).length ≤ (allB (moveL c d)).length := by
  have h : (allB (way2L a b c d)).length ≤ (allB (moveL c d)).length := by
    rw [way2L_eq]
    split <;> omega
  unfold wayL
  split
  · rw [way3L_eq]
    split <;> omega
  · exact h
theorem wayL_same {c d : Int} (h : 1 ≤ (allB (moveL c d)).length) : wayL c d c d = [] := by
  have e : goL c d c d = [] := by unfold goL byL; simp
  have h2 : way2L c d c d = [] := by
    rw [way2L_eq, e]
    have e0 : (allB []).length = 0 := rfl
    rw [if_pos (by rw [e0]; omega)]
  unfold wayL
  split
  · rw [way3L_eq, h2]
    have e0 : (allB []).length = 0 := rfl
    rw [e0, if_neg (by omega)]
  · exact h2
theorem tm_bd (a m : Int) (hm : 0 < m) : -m < a.tmod m ∧ a.tmod m < m := ⟨Int.lt_tmod_of_pos a hm, Int.tmod_lt_of_pos a hm⟩
theorem tm_pos (p m : Int) (hm : 0 < m) (hp : -m < p) : 0 ≤ (p + m).tmod m ∧ (p + m).tmod m < m := by
  rw [Int.tmod_eq_emod_of_nonneg (by omega)]
  exact ⟨Int.emod_nonneg _ (by omega), Int.emod_lt_of_pos _ hm⟩

set_option maxRecDepth 100000 in
set_option maxHeartbeats 4000000 in
theorem walk_AnsiWays (W : World) (hT : TabW W.heap.size W) (a b c d : Int) :
    Calls Tryd.prog 5 #[.int .i64 a, .int .i64 b, .int .i64 c, .int .i64 d] W (YesO W) := by
  have HT := Lib.hid hT
  have ha := tm_bd a 500 (by omega)
  have hb := tm_bd b 1000 (by omega)
  have hc := tm_bd c 500 (by omega)
  have hd := tm_bd d 1000 (by omega)
  obtain ⟨p1, hp1⟩ : ∃ p, a.tmod 500 = p := ⟨_, rfl⟩
  obtain ⟨p2, hp2⟩ : ∃ p, b.tmod 1000 = p := ⟨_, rfl⟩
  obtain ⟨p3, hp3⟩ : ∃ p, c.tmod 500 = p := ⟨_, rfl⟩
  obtain ⟨p4, hp4⟩ : ∃ p, d.tmod 1000 = p := ⟨_, rfl⟩
  rw [hp1] at ha
  rw [hp2] at hb
  rw [hp3] at hc
  rw [hp4] at hd
  obtain ⟨x0, x1⟩ := tm_pos p1 500 (by omega) ha.1
  obtain ⟨y0, y1⟩ := tm_pos p2 1000 (by omega) hb.1
  obtain ⟨u0, u1⟩ := tm_pos p3 500 (by omega) hc.1
  obtain ⟨v0, v1⟩ := tm_pos p4 1000 (by omega) hd.1
  obtain ⟨x, hx⟩ : ∃ p, (p1 + 500).tmod 500 = p := ⟨_, rfl⟩
  obtain ⟨y, hy⟩ : ∃ p, (p2 + 1000).tmod 1000 = p := ⟨_, rfl⟩
  obtain ⟨u, hu⟩ : ∃ p, (p3 + 500).tmod 500 = p := ⟨_, rfl⟩
  obtain ⟨v, hv⟩ : ∃ p, (p4 + 1000).tmod 1000 = p := ⟨_, rfl⟩
  rw [hx] at x0 x1
  rw [hy] at y0 y1
  rw [hu] at u0 u1
  rw [hv] at v0 v1
  have C1 := Lib.hid (fun X hX => way_any x y u v X hX (by omega) (by omega) (by omega) (by omega) (by omega) (by omega) (by omega) (by omega))
  have C2 := Lib.hid (fun X => rway_any x y u v X (by omega) (by omega) (by omega) (by omega) (by omega) (by omega) (by omega) (by omega))
  have FL := Lib.hid (goL_fit (a := x) (b := y) (c := u) (d := v) (by omega) (by omega) (by omega) (by omega) (by omega) (by omega) (by omega) (by omega))
  have hml := moveL_len u0 u1 v0 v1
  have hwl := wayL_len x y u v
  have HS := Lib.hid (show x = u → y = v → wayL x y u v = [] from by rintro rfl rfl; exact wayL_same hml.1)
  clear hT
  go_enter Tryd.func5, Tryd.ntmps5
  go_wp2_with fail
  refine (C1.out W HT.out).mono ?_
  rintro e w1 ⟨A, n, c, rfl, h1, b1⟩
  have H1 := Lib.hid (And.intro h1 b1)
  clear h1 b1 C1
  go_wp2_with fail
  refine (C2.out w1).mono ?_
  rintro e w2 ⟨B, m, c2, rfl, h2, b2⟩
  have H2 := Lib.hid (And.intro (H1.out.1.later b2) (And.intro h2 (belowStepA H1.out.2 b2)))
  clear h2 b2 H1 C2
  have C3 := Lib.hid (same_any A B n c m c2 _ w2 (H2.out.1.mono fun _ _ => trivial) (H2.out.2.1.mono fun _ _ => trivial) (by have := FL.out.2; omega))
  go_wp2_with fail
  refine C3.out.mono ?_
  rintro e w3 ⟨rfl, b3⟩
  have H3 := Lib.hid (And.intro (H2.out.1.later b3) (belowStepA H2.out.2.2 b3))
  clear b3 H2 C3
  have C4 := Lib.hid (all_at _ _ _ _ w3 _ H3.out.1 FL.out.1 FL.out.2 (tabW_next HT.out (Nat.le_refl _) H3.out.2))
  have g := allS_size (wayL x y u v)
  rw [← g] at hwl
  obtain ⟨T, hTT⟩ : ∃ T, allS (wayL x y u v) = T := ⟨_, rfl⟩
  rw [hTT] at C4 hwl
  have hn := H3.out.1.parts.1
  have HS2 := Lib.hid (show x = u → y = v → n = 0 from fun e1 e2 => by rw [hn, HS.out e1 e2]; rfl)
  have g5 : ¬ (11 : Int) < (T.size : Int) := by omega
  clear g hTT HS hwl hml hn
  go_wp2_with fail
  refine C4.out.mono ?_
  rintro e w4 ⟨rfl, b4⟩
  have H4 := Lib.hid (belowStepA H3.out.2 b4)
  clear b4 H3 C4
  have C5 := Lib.hid (awake_yes w4 (tabW_next HT.out (Nat.le_refl _) H4.out))
  by_cases h1 : x = u
  · by_cases h2 : y = v
    · have hn0 := HS2.out h1 h2
      subst hn0
      have e1 : (x != u) = false := by simpa using h1
      have e2 : (y != v) = false := by simpa using h2
      clear h1 h2 hx hy hu hv hp1 hp2 hp3 hp4
      go_wp2_with fail
      refine C5.out.mono ?_
      rintro e w5 ⟨rfl, b5⟩
      have H5 := Lib.hid (belowStepA H4.out b5)
      clear b5
      go_wp2_with fail
      go_ret
      exact ⟨rfl, H5.out⟩
    · have e1 : (x != u) = false := by simpa using h1
      have e2 : (y != v) = true := by simpa using h2
      clear h1 h2 hx hy hu hv hp1 hp2 hp3 hp4
      go_wp2_with fail
      refine C5.out.mono ?_
      rintro e w5 ⟨rfl, b5⟩
      have H5 := Lib.hid (belowStepA H4.out b5)
      clear b5
      go_wp2_with fail
      go_ret
      exact ⟨rfl, H5.out⟩
  · have e1 : (x != u) = true := by simpa using h1
    clear h1 hx hy hu hv hp1 hp2 hp3 hp4
    go_wp2_with fail
    refine C5.out.mono ?_
    rintro e w5 ⟨rfl, b5⟩
    have H5 := Lib.hid (belowStepA H4.out b5)
    clear b5
    go_wp2_with fail
    go_ret
    exact ⟨rfl, H5.out⟩
end Go.Proofs.YtednedklkbjihaaDoor
