/- utf: what a decoder tells of bytes, row by row. -/
import Derived.Test.YtfnieoffgnnldaaDoorSuF
namespace Go.Proofs.YtfnieoffgnnldaaDoor
open Go.RowKit
set_option linter.unusedVariables false
set_option linter.unusedSimpArgs false

/-- What is told of bytes by a decoder in a state. -/
def decF (s : DS) : List Int → List Int
  | [] => endD s
  | b :: l => (stepD s b).2 ++ decF (stepD s b).1 l

theorem decF_run (l : List Int) : ∀ (s : DS) (o : List Int), (l.foldl (fun q b => ((stepD q.1 b).1, q.2 ++ (stepD q.1 b).2)) (s, o)).2 ++ endD (l.foldl (fun q b => ((stepD q.1 b).1, q.2 ++ (stepD q.1 b).2)) (s, o)).1 = o ++ decF s l := by
  induction l with
  | nil => intro s o; rfl
  | cons b l ih =>
    intro s o
    rw [List.foldl_cons, ih]
    simp [decF]

theorem decD_is (l : List Int) : decD l = decF DS.zero l := by
  have h := decF_run l DS.zero []
  simpa [decD, runD] using h

theorem stepD_zero (b : Int) : stepD DS.zero b = beginD b := by simp [stepD, DS.zero]

theorem decF_none {b : Int} {l : List Int} (h : rowN b = 0) : decF DS.zero (b :: l) = 65533 :: decF DS.zero l := by
  simp only [decF, stepD_zero, beginD, if_pos h]; rfl
theorem decF_one {b : Int} {l : List Int} (h : rowN b = 1) : decF DS.zero (b :: l) = b :: decF DS.zero l := by
  simp only [decF, stepD_zero, beginD, h]; rfl
theorem decF_begin {b : Int} {l : List Int} (h : 2 ≤ rowN b) : decF DS.zero (b :: l) = decF ⟨b, 0, 0, 1⟩ l := by
  have h0 : ¬ rowN b = 0 := by omega
  have h1 : ¬ rowN b = 1 := by omega
  simp only [decF, stepD_zero, beginD, if_neg h0, if_neg h1]; rfl
theorem decF_stop {s : DS} {b : Int} {l : List Int} (h : ¬ s.n = 0) (hg : ¬ goes s.h0 s.n b = true) : decF s (b :: l) = 65533 :: decF DS.zero (b :: l) := by
  simp only [decF, stepD_zero, stepD, if_neg h, if_neg hg]; rfl
theorem decF_end {s : DS} (h : ¬ s.n = 0) : decF s [] = 65533 :: decF DS.zero [] := by
  simp [decF, endD, h, DS.zero]
theorem decF_whole {s : DS} {b : Int} {l : List Int} (h : ¬ s.n = 0) (hg : goes s.h0 s.n b = true) (hr : rowN s.h0 = s.n + 1) : decF s (b :: l) = wholeD s b :: decF DS.zero l := by
  simp only [decF, stepD, if_neg h, if_pos hg, if_pos hr]; rfl
theorem decF_two {c b : Int} {l : List Int} (hg : goes c 1 b = true) (hr : ¬ rowN c = 2) : decF ⟨c, 0, 0, 1⟩ (b :: l) = decF ⟨c, b, 0, 2⟩ l := by
  have hr' : ¬ rowN c = 1 + 1 := hr
  simp only [decF, stepD, if_neg (show ¬ (1 : Int) = 0 by omega), if_pos hg, if_neg hr', if_pos]; rfl
theorem decF_three {c a b : Int} {l : List Int} (hg : goes c 2 b = true) (hr : ¬ rowN c = 3) : decF ⟨c, a, 0, 2⟩ (b :: l) = decF ⟨c, a, b, 3⟩ l := by
  have hr' : ¬ rowN c = 2 + 1 := hr
  simp only [decF, stepD, if_neg (show ¬ (2 : Int) = 0 by omega), if_pos hg, if_neg hr', if_neg (show ¬ (2 : Int) = 1 by omega)]; rfl

/-- The document's: how long a row is; which bytes may stand where. -/
def longI (c : Int) : Int := if c < 128 then 1 else if c < 224 then 2 else if c < 240 then 3 else 4
def MayI (c : Int) (i : Nat) (b : Int) : Prop :=
  if i = 0 then c < 128 ∨ (194 ≤ c ∧ c ≤ 244)
  else if i = 1 ∧ c = 224 then 160 ≤ b ∧ b ≤ 191
  else if i = 1 ∧ c = 237 then 128 ≤ b ∧ b ≤ 159
  else if i = 1 ∧ c = 240 then 144 ≤ b ∧ b ≤ 191
  else if i = 1 ∧ c = 244 then 128 ≤ b ∧ b ≤ 143
  else 128 ≤ b ∧ b ≤ 191

theorem may_zero {c b : Int} : MayI c 0 b ↔ rowN c ≠ 0 := by
  simp only [MayI, rowN, if_pos]
  split <;> (try split) <;> (try split) <;> (try split) <;> omega
theorem long_is {c : Int} (h : rowN c ≠ 0) : longI c = rowN c := by
  revert h
  simp only [longI, rowN]
  intro h
  by_cases h1 : c < 128
  · simp [h1]
  · by_cases h2 : c < 194 ∨ 244 < c
    · simp [h1, h2] at h
    · simp only [h1, h2, if_false]
theorem rowN_two {c : Int} (h : 2 ≤ rowN c) : 194 ≤ c ∧ c ≤ 244 := by
  simp only [rowN] at h
  by_cases h1 : c < 128
  · simp [h1] at h
  · by_cases h2 : c < 194 ∨ 244 < c
    · simp [h1, h2] at h
    · omega
theorem may_one {c b : Int} (h : 2 ≤ rowN c) : MayI c 1 b ↔ goes c 1 b = true := by
  have hc := rowN_two h
  have hc' : ¬ (c < 194 ∨ 244 < c) := by omega
  simp only [MayI, goes, rowLo, rowHi, if_neg hc']
  by_cases h1 : c = 224
  · subst h1; simp
  · by_cases h2 : c = 237
    · subst h2; simp
    · by_cases h3 : c = 240
      · subst h3; simp
      · by_cases h4 : c = 244
        · subst h4; simp
        · simp [h1, h2, h3, h4]
theorem may_more {c b : Int} {i : Nat} (h : 2 ≤ i) (m : Int) (hm : m = i) : MayI c i b ↔ goes c m b = true := by
  have h0 : ¬ i = 0 := by omega
  have h1 : ¬ i = 1 := by omega
  have h2 : (1 : Int) < m := by omega
  simp [MayI, goes, h0, h1, h2]

/-- The scalar of a whole row. -/
def valI : List Int → Int
  | [c] => c
  | [c, b] => 64 * (c - 192) + b - 128
  | [c, b, d] => 64 * (64 * (c - 224) + b - 128) + d - 128
  | [c, b, d, e] => 64 * (64 * (64 * (c - 240) + b - 128) + d - 128) + e - 128
  | _ => 0

theorem may_cont {c b : Int} {i : Nat} (h : 0 < i) (hm : MayI c i b) : 128 ≤ b ∧ b ≤ 191 := by
  simp only [MayI, if_neg (show ¬ i = 0 by omega)] at hm
  split at hm
  · omega
  · split at hm
    · omega
    · split at hm
      · omega
      · split at hm <;> omega

theorem dec_row (c : Int) (t : List Int) (n : Nat) (hn0 : 0 < n) (hL : n ≤ t.length + 1) (hl : (n : Int) ≤ longI c) (hm : ∀ j, j < n → MayI c j ((c :: t).getD j 0)) :
    ((n : Int) = longI c → decF DS.zero (c :: t) = valI ((c :: t).take n) :: decF DS.zero ((c :: t).drop n)) ∧
    ((n : Int) < longI c → (n = t.length + 1 ∨ ¬ MayI c n ((c :: t).getD n 0)) → decF DS.zero (c :: t) = 65533 :: decF DS.zero ((c :: t).drop n)) := by
  have hr : rowN c ≠ 0 := may_zero.1 (hm 0 hn0)
  have hr4 := rowN_le c
  rw [long_is hr] at hl ⊢
  have h4 : n ≤ 4 := by omega
  obtain rfl | rfl | rfl | rfl : n = 1 ∨ n = 2 ∨ n = 3 ∨ n = 4 := by omega
  · refine ⟨fun e => decF_one e.symm, fun e hx => ?_⟩
    have h2 : 2 ≤ rowN c := by simp at e; omega
    rw [decF_begin h2]
    cases t with
    | nil => exact decF_end (by simp)
    | cons b t =>
      have hg : ¬ goes c 1 b = true := fun h => by
        rcases hx with hx | hx
        · simp at hx
        · exact hx ((may_one h2).2 (by simpa using h))
      exact decF_stop (by simp) hg
  · have h2 : 2 ≤ rowN c := by simp at hl; omega
    cases t with
    | nil => simp at hL
    | cons b t =>
      have m1 := hm 1 (by omega)
      have hg : goes c 1 b = true := (may_one h2).1 (by simpa using m1)
      have hb := may_cont (i := 1) (by decide) m1
      simp at hb
      rw [decF_begin h2]
      refine ⟨fun e => ?_, fun e hx => ?_⟩
      · rw [decF_whole (by simp) hg (by simpa using e.symm)]
        have e' : rowN c = 2 := by simpa using e.symm
        simp [valI, wholeD, leadOf, e']
        omega
      · have h3 : 3 ≤ rowN c := by simp at e; omega
        rw [decF_two hg (by omega)]
        cases t with
        | nil => exact decF_end (by simp)
        | cons d t =>
          have hg2 : ¬ goes c 2 d = true := fun h => by
            rcases hx with hx | hx
            · simp at hx
            · exact hx ((may_more (i := 2) (by decide) 2 rfl).2 (by simpa using h))
          exact decF_stop (by simp) hg2
  · have h3 : 3 ≤ rowN c := by simp at hl; omega
    have h2 : 2 ≤ rowN c := by omega
    match t, hL with
    | [], hL => simp at hL
    | [b], hL => simp at hL
    | b :: d :: t, hL =>
      have m1 := hm 1 (by omega)
      have m2 := hm 2 (by omega)
      have hg : goes c 1 b = true := (may_one h2).1 (by simpa using m1)
      have hg2 : goes c 2 d = true := (may_more (i := 2) (by decide) 2 rfl).1 (by simpa using m2)
      have hb := may_cont (i := 1) (by decide) m1
      have hd := may_cont (i := 2) (by decide) m2
      simp at hb hd
      rw [decF_begin h2, decF_two hg (by omega)]
      refine ⟨fun e => ?_, fun e hx => ?_⟩
      · rw [decF_whole (by simp) hg2 (by simpa using e.symm)]
        have e' : rowN c = 3 := by simpa using e.symm
        simp [valI, wholeD, leadOf, e']
        omega
      · have h4 : 4 ≤ rowN c := by simp at e; omega
        rw [decF_three hg2 (by omega)]
        cases t with
        | nil => exact decF_end (by simp)
        | cons x t =>
          have hg3 : ¬ goes c 3 x = true := fun h => by
            rcases hx with hx | hx
            · simp at hx
            · exact hx ((may_more (i := 3) (by decide) 3 rfl).2 (by simpa using h))
          exact decF_stop (by simp) hg3
  · have h4' : rowN c = 4 := by simp at hl; omega
    have h2 : 2 ≤ rowN c := by omega
    match t, hL with
    | [], hL => simp at hL
    | [b], hL => simp at hL
    | [b, d], hL => simp at hL
    | b :: d :: x :: t, hL =>
      have m1 := hm 1 (by omega)
      have m2 := hm 2 (by omega)
      have m3 := hm 3 (by omega)
      have hg : goes c 1 b = true := (may_one h2).1 (by simpa using m1)
      have hg2 : goes c 2 d = true := (may_more (i := 2) (by decide) 2 rfl).1 (by simpa using m2)
      have hg3 : goes c 3 x = true := (may_more (i := 3) (by decide) 3 rfl).1 (by simpa using m3)
      have hb := may_cont (i := 1) (by decide) m1
      have hd := may_cont (i := 2) (by decide) m2
      have hx := may_cont (i := 3) (by decide) m3
      simp at hb hd hx
      rw [decF_begin h2, decF_two hg (by omega), decF_three hg2 (by omega)]
      refine ⟨fun e => ?_, fun e hx => ?_⟩
      · rw [decF_whole (by simp) hg3 (by simpa using h4')]
        simp [valI, wholeD, leadOf, h4']
        omega
      · simp at e; omega

end Go.Proofs.YtfnieoffgnnldaaDoor
