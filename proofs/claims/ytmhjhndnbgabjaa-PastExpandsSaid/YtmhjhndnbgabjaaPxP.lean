/- past: what a text is expanded to, in plain words. -/
import Derived.Test.YtmhjhndnbgabjaaPastQ
namespace Go.Proofs.Ytmhjhndnbgabjaa
open Go.RowKit
set_option linter.unusedVariables false
set_option linter.unusedSimpArgs false

/-- The number with which scalars begin, of so many digits at the most; how many these are. -/
def numP : Nat → Nat → List Int → Nat × Nat
  | 0, n, _ => (n, 0)
  | _ + 1, n, [] => (n, 0)
  | f + 1, n, c :: t => if 48 ≤ c ∧ c ≤ 57 then ((numP f (n * 10 + (c - 48).toNat) t).1, (numP f (n * 10 + (c - 48).toNat) t).2 + 1) else (n, 0)
theorem numP_cons (f n : Nat) (c : Int) (t : List Int) : numP (f + 1) n (c :: t) = if 48 ≤ c ∧ c ≤ 57 then ((numP f (n * 10 + (c - 48).toNat) t).1, (numP f (n * 10 + (c - 48).toNat) t).2 + 1) else (n, 0) := rfl
def begP (l w : List Int) : Bool := decide (w.length ≤ l.length) && decide (l.take w.length = w)
def hasP (l w : List Int) : Bool := (List.range (l.length + 1)).any fun i => begP (l.drop i) w
def newestP (M : List (List Int)) (f : List Int → Bool) : Option (List Int) := M.reverse.find? f
def backP (M : List (List Int)) (n : Int) : Option (List Int) := if n < 1 ∨ (M.length : Int) < n then none else some (M.getD (M.length - n.toNat) [])
/-- The error that is told: 5, if there is none. -/
def errO {α : Type} : Option α → Int
  | some _ => 0
  | none => 5
def notQ (x : Int) : Bool := x != 63
def notEnd (x : Int) : Bool := !(x == 32 || x == 9 || x == 33)
/-- What the text behind a ! names: a line and how many scalars; 0: the ! is itself. -/
def eventP (M : List (List Int)) : List Int → Option (List Int × Nat)
  | [] => some ([], 0)
  | c :: r =>
    if c = 33 then (backP M 1).map fun l => (l, 1)
    else if 0 < (numP 4 0 (c :: r)).2 then (backP M (M.length + 1 - (numP 4 0 (c :: r)).1)).map fun l => (l, (numP 4 0 (c :: r)).2)
    else if c = 45 ∧ 0 < (numP 4 0 r).2 then (backP M (numP 4 0 r).1).map fun l => (l, (numP 4 0 r).2 + 1)
    else if c = 63 then (newestP M fun l => hasP l (r.takeWhile notQ)).map fun l => (l, if (r.takeWhile notQ).length < r.length then (r.takeWhile notQ).length + 2 else r.length + 1)
    else if ((c :: r).takeWhile notEnd).length = 0 then some ([], 0)
    else (newestP M fun l => begP l ((c :: r).takeWhile notEnd)).map fun l => (l, ((c :: r).takeWhile notEnd).length)
theorem eventP_cons (M : List (List Int)) (c : Int) (r : List Int) : eventP M (c :: r) =
    if c = 33 then (backP M 1).map fun l => (l, 1)
    else if 0 < (numP 4 0 (c :: r)).2 then (backP M (M.length + 1 - (numP 4 0 (c :: r)).1)).map fun l => (l, (numP 4 0 (c :: r)).2)
    else if c = 45 ∧ 0 < (numP 4 0 r).2 then (backP M (numP 4 0 r).1).map fun l => (l, (numP 4 0 r).2 + 1)
    else if c = 63 then (newestP M fun l => hasP l (r.takeWhile notQ)).map fun l => (l, if (r.takeWhile notQ).length < r.length then (r.takeWhile notQ).length + 2 else r.length + 1)
    else if ((c :: r).takeWhile notEnd).length = 0 then some ([], 0)
    else (newestP M fun l => begP l ((c :: r).takeWhile notEnd)).map fun l => (l, ((c :: r).takeWhile notEnd).length) := rfl
def expQ (M : List (List Int)) : Nat → List Int → Option (List Int)
  | 0, _ => some []
  | _ + 1, [] => some []
  | f + 1, c :: t =>
    if c = 92 ∧ t.head? = some 33 then (expQ M f (t.drop 1)).map (33 :: ·)
    else if c = 33 then (eventP M t).bind fun e => (expQ M f (t.drop e.2)).map ((if e.2 = 0 then [33] else e.1) ++ ·)
    else (expQ M f t).map (c :: ·)
theorem numP_le : ∀ (f n : Nat) (l : List Int), (numP f n l).2 ≤ l.length ∧ (numP f n l).2 ≤ f := by
  intro f
  induction f with
  | zero => intro n l; simp [numP]
  | succ f ih =>
    intro n l
    cases l with
    | nil => simp [numP]
    | cons c t =>
      rw [numP_cons]
      split
      · have := ih (n * 10 + (c - 48).toNat) t
        simp only [List.length_cons]
        omega
      · simp
theorem numP_yes {f n : Nat} {l : List Int} {j : Nat} {d : Nat} (hj : j < l.length) (h : l.getD j 0 = (d : Int) + 48) (hd : d ≤ 9) : numP (f + 1) n (l.drop j) = ((numP f (n * 10 + d) (l.drop (j + 1))).1, (numP f (n * 10 + d) (l.drop (j + 1))).2 + 1) := by
  rw [List.drop_eq_getElem_cons hj]
  have e : l[j] = (d : Int) + 48 := by rw [← h]; simp [List.getD, hj]
  rw [numP_cons]
  rw [e, if_pos (by omega), show ((d : Int) + 48 - 48).toNat = d by omega]
theorem numP_no {f n : Nat} {l : List Int} {j : Nat} (h : f = 0 ∨ l.length ≤ j ∨ ¬ (48 ≤ l.getD j 0 ∧ l.getD j 0 ≤ 57)) : numP f n (l.drop j) = (n, 0) := by
  cases f with
  | zero => rfl
  | succ f =>
    rcases Nat.lt_or_ge j l.length with hj | hj
    · rw [List.drop_eq_getElem_cons hj]
      rw [numP_cons]
      rw [if_neg]
      rcases h with h | h | h
      · cases h
      · omega
      · have e : l.getD j 0 = l[j] := by simp [List.getD, hj]
        rwa [e] at h
    · rw [List.drop_eq_nil_of_le hj]
      rfl
/-- The loop's invariant: what is read from a place on. -/
def numAt (l : List Int) (j n : Nat) : Prop := numP 4 0 l = ((numP (4 - j) n (l.drop j)).1, (numP (4 - j) n (l.drop j)).2 + j) ∧ n + 1 ≤ 10 ^ j
theorem numAt_zero (l : List Int) : numAt l 0 0 := ⟨rfl, Nat.le_refl _⟩
theorem numAt_succ {l : List Int} {j n d : Nat} (h : numAt l j n) (h4 : j < 4) (hj : j < l.length) (hc : l.getD j 0 = (d : Int) + 48) (hd : d ≤ 9) : numAt l (j + 1) (n * 10 + d) := by
  obtain ⟨h1, h2⟩ := h
  refine ⟨?_, by rw [Nat.pow_succ]; omega⟩
  rw [h1, show 4 - j = (4 - (j + 1)) + 1 by omega, numP_yes hj hc hd]
  simp only [Prod.mk.injEq, true_and]
  omega
theorem numAt_end {l : List Int} {j n : Nat} (h : numAt l j n) (he : 4 ≤ j ∨ l.length ≤ j ∨ ¬ (48 ≤ l.getD j 0 ∧ l.getD j 0 ≤ 57)) : numP 4 0 l = (n, j) := by
  rw [h.1, numP_no (by omega), Nat.zero_add]
theorem numAt_small {l : List Int} {j n : Nat} (h : numAt l j n) (hj : j ≤ 4) : n ≤ 9999 := by
  have := h.2
  have : 10 ^ j ≤ 10 ^ 4 := Nat.pow_le_pow_right (by decide) hj
  omega
theorem num_small (l : List Int) : (numP 4 0 l).1 ≤ 9999 := by
  have key : ∀ (f j n : Nat) (l : List Int), f + j = 4 → n + 1 ≤ 10 ^ j → (numP f n l).1 + 1 ≤ 10 ^ 4 := by
    intro f
    induction f with
    | zero => intro j n l h1 h2; obtain rfl : j = 4 := (by omega); exact h2
    | succ f ih =>
      intro j n l h1 h2
      have hp : 10 ^ j ≤ 10 ^ 4 := Nat.pow_le_pow_right (by decide) (by omega)
      cases l with
      | nil => show n + 1 ≤ _; omega
      | cons c t =>
        rw [numP_cons]
        split
        · exact ih (j + 1) _ t (by omega) (by rw [Nat.pow_succ]; omega)
        · show n + 1 ≤ _; omega
  have := key 4 0 0 l rfl (Nat.le_refl _)
  omega
/-! ### where a test first fails -/
theorem tw_yes {p : Int → Bool} {l : List Int} {j : Nat} (hj : j < l.length) (h : p (l.getD j 0) = true) : (l.drop j).takeWhile p = l.getD j 0 :: (l.drop (j + 1)).takeWhile p := by
  rw [List.drop_eq_getElem_cons hj]
  have e : l.getD j 0 = l[j] := by simp [List.getD, hj]
  rw [e] at h ⊢
  rw [List.takeWhile_cons_of_pos h]
theorem tw_no {p : Int → Bool} {l : List Int} {j : Nat} (h : l.length ≤ j ∨ p (l.getD j 0) = false) : (l.drop j).takeWhile p = [] := by
  rcases Nat.lt_or_ge j l.length with hj | hj
  · rw [List.drop_eq_getElem_cons hj]
    have e : l.getD j 0 = l[j] := by simp [List.getD, hj]
    rcases h with h | h
    · omega
    · rw [e] at h
      rw [List.takeWhile_cons_of_neg (by rw [h]; exact Bool.false_ne_true)]
  · rw [List.drop_eq_nil_of_le hj]; rfl
/-- How far a test holds, from a place on. -/
def twAt (p : Int → Bool) (l : List Int) (j : Nat) : Prop := (l.takeWhile p).length = ((l.drop j).takeWhile p).length + j
theorem twAt_zero (p : Int → Bool) (l : List Int) : twAt p l 0 := rfl
theorem twAt_succ {p : Int → Bool} {l : List Int} {j : Nat} (h : twAt p l j) (hj : j < l.length) (hp : p (l.getD j 0) = true) : twAt p l (j + 1) := by
  unfold twAt at *
  rw [h, tw_yes hj hp, List.length_cons]
  omega
theorem twAt_end {p : Int → Bool} {l : List Int} {j : Nat} (h : twAt p l j) (he : l.length ≤ j ∨ p (l.getD j 0) = false) : (l.takeWhile p).length = j := by
  rw [h, tw_no he]
  exact Nat.zero_add j
theorem tw_take (p : Int → Bool) (l : List Int) : l.takeWhile p = l.take (l.takeWhile p).length := by
  exact List.prefix_iff_eq_take.1 (List.takeWhile_prefix p)
theorem tw_le (p : Int → Bool) (l : List Int) : (l.takeWhile p).length ≤ l.length := (List.takeWhile_prefix p).length_le
/-! ### having -/
def hasAt (l w : List Int) (i : Nat) : Prop := hasP l w = (List.range (l.length + 1 - i)).any fun k => begP (l.drop (i + k)) w
theorem hasAt_zero (l w : List Int) : hasAt l w 0 := by unfold hasAt hasP; simp
theorem hasAt_no {l w : List Int} {i : Nat} (h : hasAt l w i) (hi : i ≤ l.length) (hb : begP (l.drop i) w = false) : hasAt l w (i + 1) := by
  unfold hasAt at *
  rw [h, show l.length + 1 - i = (l.length + 1 - (i + 1)) + 1 by omega, List.range_succ_eq_map, List.any_cons, Nat.add_zero, hb, Bool.false_or, List.any_map]
  congr 1
  funext k
  simp only [Function.comp]
  rw [show i + Nat.succ k = i + 1 + k by omega]
theorem hasAt_yes {l w : List Int} {i : Nat} (h : hasAt l w i) (hi : i ≤ l.length) (hb : begP (l.drop i) w = true) : hasP l w = true := by
  rw [h, List.any_eq_true]
  exact ⟨0, List.mem_range.2 (by omega), by rw [Nat.add_zero]; exact hb⟩
theorem hasAt_end {l w : List Int} {i : Nat} (h : hasAt l w i) (hi : l.length < i + w.length) : hasP l w = false := by
  rw [h, List.any_eq_false]
  intro k hk
  have := List.mem_range.1 hk
  unfold begP
  rw [decide_eq_false (by rw [List.length_drop]; omega)]
  exact Bool.false_ne_true
end Go.Proofs.Ytmhjhndnbgabjaa
