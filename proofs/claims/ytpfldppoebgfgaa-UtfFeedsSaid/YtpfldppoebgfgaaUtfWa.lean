/- utf: which bytes wait. -/
import Derived.Test.YtpfldppoebgfgaaUtfX
namespace Go.Proofs.Ytpfldppoebgfgaa
open Go.RowKit
set_option linter.unusedVariables false
set_option linter.unusedSimpArgs false

/-- A decoder's state behind bytes. -/
def stF (s : DS) (l : List Int) : DS := l.foldl (fun s b => (stepD s b).1) s

theorem stF_run (l : List Int) : ∀ (s : DS) (o : List Int), (l.foldl (fun q b => ((stepD q.1 b).1, q.2 ++ (stepD q.1 b).2)) (s, o)).1 = stF s l := by
  induction l with
  | nil => intro s o; rfl
  | cons b l ih => intro s o; rw [List.foldl_cons, ih]; rfl
theorem stF_is (l : List Int) : (runD l).1 = stF DS.zero l := stF_run l DS.zero []

theorem stF_cons (s : DS) (b : Int) (l : List Int) : stF s (b :: l) = stF (stepD s b).1 l := rfl
theorem stF_none {b : Int} {l : List Int} (h : rowN b = 0) : stF DS.zero (b :: l) = stF DS.zero l := by
  rw [stF_cons, stepD_zero, beginD, if_pos h]
theorem stF_one {b : Int} {l : List Int} (h : rowN b = 1) : stF DS.zero (b :: l) = stF DS.zero l := by
  rw [stF_cons, stepD_zero, beginD, if_neg (by omega), if_pos h]
theorem stF_begin {b : Int} {l : List Int} (h : 2 ≤ rowN b) : stF DS.zero (b :: l) = stF ⟨b, 0, 0, 1⟩ l := by
  rw [stF_cons, stepD_zero, beginD, if_neg (by omega), if_neg (by omega)]
theorem stF_stop {s : DS} {b : Int} {l : List Int} (h : ¬ s.n = 0) (hg : ¬ goes s.h0 s.n b = true) : stF s (b :: l) = stF DS.zero (b :: l) := by
  rw [stF_cons, stF_cons, stepD_zero, stepD, if_neg h, if_neg hg]
theorem stF_whole {s : DS} {b : Int} {l : List Int} (h : ¬ s.n = 0) (hg : goes s.h0 s.n b = true) (hr : rowN s.h0 = s.n + 1) : stF s (b :: l) = stF DS.zero l := by
  rw [stF_cons, stepD, if_neg h, if_pos hg, if_pos hr]
theorem stF_two {c b : Int} {l : List Int} (hg : goes c 1 b = true) (hr : ¬ rowN c = 2) : stF ⟨c, 0, 0, 1⟩ (b :: l) = stF ⟨c, b, 0, 2⟩ l := by
  have hr' : ¬ rowN c = 1 + 1 := hr
  simp only [stF_cons, stepD, if_neg (show ¬ (1 : Int) = 0 by omega), if_pos hg, if_neg hr', if_pos]
theorem stF_three {c a b : Int} {l : List Int} (hg : goes c 2 b = true) (hr : ¬ rowN c = 3) : stF ⟨c, a, 0, 2⟩ (b :: l) = stF ⟨c, a, b, 3⟩ l := by
  have hr' : ¬ rowN c = 2 + 1 := hr
  simp only [stF_cons, stepD, if_neg (show ¬ (2 : Int) = 0 by omega), if_pos hg, if_neg hr', if_neg (show ¬ (2 : Int) = 1 by omega)]

theorem st_row (c : Int) (t : List Int) (n : Nat) (hn0 : 0 < n) (hL : n ≤ t.length + 1) (hl : (n : Int) ≤ longI c) (hm : ∀ j, j < n → MayI c j ((c :: t).getD j 0)) :
    ((n : Int) = longI c → stF DS.zero (c :: t) = stF DS.zero ((c :: t).drop n)) ∧
    ((n : Int) < longI c → (n = t.length + 1 ∨ ¬ MayI c n ((c :: t).getD n 0)) → (n = t.length + 1 ∧ (stF DS.zero (c :: t)).n = n) ∨ (n < t.length + 1 ∧ stF DS.zero (c :: t) = stF DS.zero ((c :: t).drop n))) := by
  have hr : rowN c ≠ 0 := may_zero.1 (hm 0 hn0)
  have hr4 := rowN_le c
  rw [long_is hr] at hl ⊢
  have h4 : n ≤ 4 := by omega
  obtain rfl | rfl | rfl | rfl : n = 1 ∨ n = 2 ∨ n = 3 ∨ n = 4 := by omega
  · refine ⟨fun e => stF_one e.symm, fun e hx => ?_⟩
    have h2 : 2 ≤ rowN c := by simp at e; omega
    rw [stF_begin h2]
    cases t with
    | nil => exact .inl ⟨by simp, rfl⟩
    | cons b t =>
      have hg : ¬ goes c 1 b = true := fun h => by
        rcases hx with hx | hx
        · simp at hx
        · exact hx ((may_one h2).2 (by simpa using h))
      exact .inr ⟨by simp only [List.length_cons]; omega, stF_stop (by simp) hg⟩
  · have h2 : 2 ≤ rowN c := by simp at hl; omega
    cases t with
    | nil => simp at hL
    | cons b t =>
      have m1 := hm 1 (by omega)
      have hg : goes c 1 b = true := (may_one h2).1 (by simpa using m1)
      have hb := may_cont (i := 1) (by decide) m1
      simp at hb
      rw [stF_begin h2]
      refine ⟨fun e => ?_, fun e hx => ?_⟩
      · rw [stF_whole (by simp) hg (by simpa using e.symm)]
        rfl
      · have h3 : 3 ≤ rowN c := by simp at e; omega
        rw [stF_two hg (by omega)]
        cases t with
        | nil => exact .inl ⟨by simp, rfl⟩
        | cons d t =>
          have hg2 : ¬ goes c 2 d = true := fun h => by
            rcases hx with hx | hx
            · simp at hx
            · exact hx ((may_more (i := 2) (by decide) 2 rfl).2 (by simpa using h))
          exact .inr ⟨by simp only [List.length_cons]; omega, stF_stop (by simp) hg2⟩
  · have h3 : 3 ≤ rowN c := by simp at hl; omega
    have h2 : 2 ≤ rowN c := by omega
    match t, hL with
    | [], hL => simp at hL
    | [b], hL => simp at hL
    | b :: d :: t, hL =>
      have m1 := hm 1 (by omega)
      have m2 := hm 2 (by omega)
      have hg : goes c 1 b = true := (may_one h2).1 (by simpa using m1)
      have hg2 : goes c 2 d = true := (may_more (i := 2) (by decide) 2 rfl).1 (by simpa using m2)
      have hb := may_cont (i := 1) (by decide) m1
      have hd := may_cont (i := 2) (by decide) m2
      simp at hb hd
      rw [stF_begin h2, stF_two hg (by omega)]
      refine ⟨fun e => ?_, fun e hx => ?_⟩
      · rw [stF_whole (by simp) hg2 (by simpa using e.symm)]
        rfl
      · have h4 : 4 ≤ rowN c := by simp at e; omega
        rw [stF_three hg2 (by omega)]
        cases t with
        | nil => exact .inl ⟨by simp, rfl⟩
        | cons x t =>
          have hg3 : ¬ goes c 3 x = true := fun h => by
            rcases hx with hx | hx
            · simp at hx
            · exact hx ((may_more (i := 3) (by decide) 3 rfl).2 (by simpa using h))
          exact .inr ⟨by simp only [List.length_cons]; omega, stF_stop (by simp) hg3⟩
  · have h4' : rowN c = 4 := by simp at hl; omega
    have h2 : 2 ≤ rowN c := by omega
    match t, hL with
    | [], hL => simp at hL
    | [b], hL => simp at hL
    | [b, d], hL => simp at hL
    | b :: d :: x :: t, hL =>
      have m1 := hm 1 (by omega)
      have m2 := hm 2 (by omega)
      have m3 := hm 3 (by omega)
      have hg : goes c 1 b = true := (may_one h2).1 (by simpa using m1)
      have hg2 : goes c 2 d = true := (may_more (i := 2) (by decide) 2 rfl).1 (by simpa using m2)
      have hg3 : goes c 3 x = true := (may_more (i := 3) (by decide) 3 rfl).1 (by simpa using m3)
      have hb := may_cont (i := 1) (by decide) m1
      have hd := may_cont (i := 2) (by decide) m2
      have hx := may_cont (i := 3) (by decide) m3
      simp at hb hd hx
      rw [stF_begin h2, stF_two hg (by omega), stF_three hg2 (by omega)]
      refine ⟨fun e => ?_, fun e hx => ?_⟩
      · rw [stF_whole (by simp) hg3 (by simpa using h4')]
        rfl
      · simp at e; omega

theorem st_step (c : Int) (t : List Int) (n : Nat) (wh : Bool) (h : RowIs0 (c :: t) n wh) :
    (wh = false ∧ 0 < n ∧ n = t.length + 1 ∧ (stF DS.zero (c :: t)).n = n) ∨
    ((wh = false ∧ 0 < n ∧ n = t.length + 1) → False) ∧ stF DS.zero (c :: t) = stF DS.zero ((c :: t).drop (bif decide (n = 0) then 1 else n)) := by
  obtain ⟨hn, hc, hx, hw⟩ := h
  have hp := longI_pos c
  have hcz : (c :: t).getD 0 0 = c := rfl
  rw [hcz] at hw
  by_cases h0 : n = 0
  · subst h0
    have hr : rowN c = 0 := by
      by_cases hr : rowN c = 0
      · exact hr
      · exact absurd ⟨by simp, by rw [hcz]; simp; omega, by rw [hcz]; exact may_zero.2 hr⟩ hx
    refine .inr ⟨fun h => by omega, ?_⟩
    rw [stF_none hr]
    rfl
  · have hl : (n : Int) ≤ longI c := by
      have := (hc (n - 1) (by omega)).2.1
      rw [hcz] at this
      omega
    have hd := st_row c t n (by omega) (by simpa using hn) hl (fun j hj => by have := (hc j hj).2.2; rwa [hcz] at this)
    have hz : decide (n = 0) = false := by simp [h0]
    rw [hz]
    cases wh
    · have hne : ¬ (n : Int) = longI c := fun e => absurd (hw.2 ⟨by omega, e⟩) (by simp)
      by_cases he : n = t.length + 1
      · rcases hd.2 (by omega) (.inl he) with h | h
        · exact .inl ⟨rfl, by omega, h⟩
        · omega
      · refine .inr ⟨fun h => he h.2.2, ?_⟩
        rcases hd.2 (by omega) (.inr fun hm => hx ⟨by simp at hn ⊢; omega, by rw [hcz]; omega, by rw [hcz]; exact hm⟩) with h | h
        · exact absurd h.1 he
        · exact h.2
    · exact .inr ⟨fun h => absurd h.1 (by simp), hd.1 (hw.1 rfl).2⟩


/-- What is told of all bytes but those that wait is what was told so far. -/
theorem out_is (l : List Int) (hby : ∀ b ∈ l, 0 ≤ b ∧ b ≤ 255) : 0 ≤ (runD l).1.n ∧ (runD l).1.n ≤ l.length ∧ (runD l).2 = decD (l.take (l.length - (runD l).1.n.toNat)) := by
  induction hk : l.length generalizing l with
  | zero =>
    have : l = [] := List.length_eq_zero_iff.1 hk
    subst this
    exact ⟨by decide, by decide, by rfl⟩
  | succ k ih =>
    obtain ⟨l', b, rfl⟩ : ∃ l' b, l = l' ++ [b] := ⟨l.dropLast, l.getLast (by intro e; simp [e] at hk), (List.dropLast_concat_getLast _).symm⟩
    have hk' : l'.length = k := by simpa using hk
    obtain ⟨i0, i1, i2⟩ := ih l' (fun x hx => hby x (List.mem_append_left _ hx)) hk'
    have hlast : ∀ x : List Int, x = decD (l' ++ [b]) → x = decD ((l' ++ [b]).take (k + 1 - (0 : Int).toNat)) := fun x h => by
      rw [h, List.take_of_length_le (by simp [hk'])]
    have hs := runD_snoc l' b
    have hok := (runD_ok l' (fun x hx => hby x (List.mem_append_left _ hx))).2
    have hD : decD (l' ++ [b]) = (runD (l' ++ [b])).2 ++ endD (runD (l' ++ [b])).1 := rfl
    have hD' : decD l' = (runD l').2 ++ endD (runD l').1 := rfl
    have zero_case : (runD (l' ++ [b])).1.n = 0 → 0 ≤ (runD (l' ++ [b])).1.n ∧ (runD (l' ++ [b])).1.n ≤ ((k + 1 : Nat) : Int) ∧ (runD (l' ++ [b])).2 = decD ((l' ++ [b]).take (k + 1 - (runD (l' ++ [b])).1.n.toNat)) := fun h => by
      rw [h]
      refine ⟨by omega, by omega, hlast _ ?_⟩
      rw [hD, endD, if_pos h, List.append_nil]
    have one_case : (runD (l' ++ [b])).1.n = 1 → (runD (l' ++ [b])).2 = decD l' → 0 ≤ (runD (l' ++ [b])).1.n ∧ (runD (l' ++ [b])).1.n ≤ ((k + 1 : Nat) : Int) ∧ (runD (l' ++ [b])).2 = decD ((l' ++ [b]).take (k + 1 - (runD (l' ++ [b])).1.n.toNat)) := fun h h2 => by
      rw [h]
      refine ⟨by omega, by omega, ?_⟩
      rw [h2, show k + 1 - (1 : Int).toNat = l'.length by rw [hk']; rfl, List.take_left']
      rfl
    obtain ⟨⟨⟨h0, h1, h2, m⟩, ou⟩, hru⟩ : ∃ r, runD l' = r := ⟨_, rfl⟩
    simp only [hru] at hs i0 i1 i2 hD' hok
    have hbg : (rowN b = 0 ∧ beginD b = (DS.zero, [65533])) ∨ (rowN b = 1 ∧ beginD b = (DS.zero, [b])) ∨ beginD b = (⟨b, 0, 0, 1⟩, []) := by
      unfold beginD
      by_cases r0 : rowN b = 0
      · exact .inl ⟨r0, if_pos r0⟩
      · by_cases r1 : rowN b = 1
        · exact .inr (.inl ⟨r1, by rw [if_neg r0, if_pos r1]⟩)
        · exact .inr (.inr (by rw [if_neg r0, if_neg r1]))
    by_cases hm : m = 0
    · subst hm
      have e : stepD ⟨h0, h1, h2, 0⟩ b = beginD b := by simp [stepD]
      rw [e] at hs
      have hd0 : decD l' = ou := by rw [hD', endD, if_pos rfl, List.append_nil]
      rcases hbg with ⟨_, hb⟩ | ⟨_, hb⟩ | hb
      · exact zero_case (by rw [hs, hb]; rfl)
      · exact zero_case (by rw [hs, hb]; rfl)
      · exact one_case (by rw [hs, hb]) (by rw [hs, hb, hd0, List.append_nil])
    · by_cases hg : goes h0 m b = true
      · by_cases hr : rowN h0 = m + 1
        · have e : stepD ⟨h0, h1, h2, m⟩ b = (DS.zero, [wholeD ⟨h0, h1, h2, m⟩ b]) := by simp [stepD, hm, hg, hr]
          exact zero_case (by rw [hs, e]; rfl)
        · have hm12 : m = 1 ∨ m = 2 := by
            have h4 := rowN_le h0
            omega
          have e : (stepD ⟨h0, h1, h2, m⟩ b).1.n = m + 1 ∧ (stepD ⟨h0, h1, h2, m⟩ b).2 = [] := by
            simp only [stepD, if_neg hm, hg, if_true, if_neg hr]
            rcases hm12 with rfl | rfl
            · exact ⟨rfl, rfl⟩
            · exact ⟨rfl, rfl⟩
          have en : (runD (l' ++ [b])).1.n = m + 1 := by rw [hs]; exact e.1
          rw [en]
          refine ⟨by omega, by omega, ?_⟩
          have h2 : (runD (l' ++ [b])).2 = ou := by rw [hs, e.2, List.append_nil]
          rw [h2, i2, List.take_append_of_le_length (by omega)]
          congr 2
          omega
      · have e : stepD ⟨h0, h1, h2, m⟩ b = ((beginD b).1, 65533 :: (beginD b).2) := by simp [stepD, hm, hg]
        rw [e] at hs
        have hd0 : decD l' = ou ++ [65533] := by rw [hD', endD, if_neg hm]
        rcases hbg with ⟨_, hb⟩ | ⟨_, hb⟩ | hb
        · exact zero_case (by rw [hs, hb]; rfl)
        · exact zero_case (by rw [hs, hb]; rfl)
        · exact one_case (by rw [hs, hb]) (by rw [hs, hb, hd0])

end Go.Proofs.Ytpfldppoebgfgaa
