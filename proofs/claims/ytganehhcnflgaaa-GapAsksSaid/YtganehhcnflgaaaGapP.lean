/- gap: lists with a gap. -/
import Derived.Test.YtganehhcnflgaaaGapA
namespace Go.Proofs.Ytganehhcnflgaaa
open Go.RowKit
set_option linter.unusedVariables false
set_option linter.unusedSimpArgs false

/-- What is held: ahead of the gap, and behind it. -/
def held (fr te : Nat) (cur : List Int) : List Int := cur.take fr ++ cur.drop te

theorem held_get {fr te : Nat} {cur : List Int} (h : fr ≤ cur.length) (j : Nat) : (held fr te cur)[j]? = if j < fr then cur[j]? else cur[te + (j - fr)]? := by
  unfold held
  have e1 : (cur.take fr).length = fr := by simp; omega
  by_cases h1 : j < fr
  · rw [if_pos h1, List.getElem?_append_left (by omega), List.getElem?_take, if_pos h1]
  · rw [if_neg h1, List.getElem?_append_right (by omega), e1, List.getElem?_drop]

theorem held_len {fr te : Nat} {cur : List Int} (h1 : fr ≤ te) (h2 : te ≤ cur.length) : (held fr te cur).length = cur.length - (te - fr) := by
  unfold held; simp; omega

theorem held_clear {fr te off n : Nat} {cur : List Int} (h1 : fr ≤ off) (h2 : off + n ≤ te) (h3 : te ≤ cur.length) : held fr te (splice cur off (List.replicate n 0)) = held fr te cur := by
  have hl : (splice cur off (List.replicate n 0)).length = cur.length := length_splice _ _ _ (by simp; omega)
  apply List.ext_getElem?
  intro j
  rw [held_get (by omega), held_get (by omega), splice_get (by simp; omega), splice_get (by simp; omega)]
  simp only [List.length_replicate]
  split
  · rw [if_pos (by omega)]
  · by_cases h : te + (j - fr) < off + n
    · omega
    · rw [if_neg (by omega), if_neg (by omega)]

theorem held_left {fr te a : Nat} {cur : List Int} (h1 : a ≤ fr) (h2 : fr ≤ te) (h3 : te ≤ cur.length) :
    held a (a + (te - fr)) (splice cur (a + (te - fr)) ((cur.drop a).take (fr - a))) = held fr te cur := by
  have hn : ((cur.drop a).take (fr - a)).length = fr - a := by simp; omega
  have hl : (splice cur (a + (te - fr)) ((cur.drop a).take (fr - a))).length = cur.length := length_splice _ _ _ (by omega)
  apply List.ext_getElem?
  intro j
  rw [held_get (by omega), held_get (by omega), splice_get (by omega), splice_get (by omega), hn]
  by_cases c1 : j < a
  · rw [if_pos c1, if_pos (by omega), if_pos (by omega)]
  · rw [if_neg c1, if_neg (by omega)]
    by_cases c2 : j < fr
    · rw [if_pos c2, if_pos (by omega), List.getElem?_take, if_pos (by omega), List.getElem?_drop]
      congr 1; omega
    · rw [if_neg c2, if_neg (by omega)]
      congr 1; omega

theorem held_right {fr te a : Nat} {cur : List Int} (h1 : fr ≤ a) (h2 : fr ≤ te) (h3 : a + (te - fr) ≤ cur.length) :
    held a (a + (te - fr)) (splice cur fr ((cur.drop te).take (a - fr))) = held fr te cur := by
  have hn : ((cur.drop te).take (a - fr)).length = a - fr := by simp; omega
  have hl : (splice cur fr ((cur.drop te).take (a - fr))).length = cur.length := length_splice _ _ _ (by omega)
  apply List.ext_getElem?
  intro j
  rw [held_get (by omega), held_get (by omega), splice_get (by omega), splice_get (by omega), hn]
  by_cases c1 : j < fr
  · rw [if_pos (by omega), if_pos c1, if_pos c1]
  · rw [if_neg c1]
    by_cases c2 : j < a
    · rw [if_pos c2, if_neg c1, if_pos (by omega), List.getElem?_take, if_pos (by omega), List.getElem?_drop]
    · have c3 : a + (te - fr) + (j - a) = te + (j - fr) := by omega
      rw [if_neg c2, if_neg (by omega), if_neg (by omega), c3, if_neg c1]

theorem held_drop {fr te n : Nat} {cur : List Int} (h1 : fr ≤ te) (h2 : te + n ≤ cur.length) : held fr (te + n) cur = (held fr te cur).take fr ++ (held fr te cur).drop (fr + n) := by
  have hl := held_len (cur := cur) h1 (by omega)
  have e1 : ((held fr te cur).take fr).length = fr := by rw [List.length_take]; omega
  apply List.ext_getElem?
  intro j
  rw [held_get (by omega)]
  by_cases c1 : j < fr
  · rw [if_pos c1, List.getElem?_append_left (by omega), List.getElem?_take, if_pos c1, held_get (by omega), if_pos c1]
  · rw [if_neg c1, List.getElem?_append_right (by omega), e1, List.getElem?_drop, held_get (by omega), if_neg (by omega)]
    congr 1; omega

theorem held_put {fr te : Nat} {cur ins : List Int} (h1 : fr + ins.length ≤ te) (h2 : te ≤ cur.length) : held (fr + ins.length) te (splice cur fr ins) = cur.take fr ++ ins ++ cur.drop te := by
  have hl : (splice cur fr ins).length = cur.length := length_splice _ _ _ (by omega)
  have e1 : (cur.take fr).length = fr := by simp; omega
  apply List.ext_getElem?
  intro j
  rw [held_get (by omega), splice_get (by omega), splice_get (by omega)]
  by_cases c1 : j < fr
  · rw [if_pos (by omega), if_pos c1, List.append_assoc, List.getElem?_append_left (by omega), List.getElem?_take, if_pos c1]
  · by_cases c2 : j < fr + ins.length
    · rw [if_pos c2, if_neg c1, if_pos c2, List.getElem?_append_left (by simp; omega), List.getElem?_append_right (by omega), e1]
    · rw [if_neg c2, if_neg (by omega), if_neg (by omega), List.getElem?_append_right (by simp; omega), List.length_append, e1, List.getElem?_drop]

/-- What a splice makes of it, all in all. -/
theorem held_all {fr te n : Nat} {cur ins : List Int} (h1 : fr ≤ te) (h2 : te + n ≤ cur.length) : cur.take fr ++ ins ++ cur.drop (te + n) = (held fr te cur).take fr ++ ins ++ (held fr te cur).drop (fr + n) := by
  have := held_drop (cur := cur) (fr := fr) (te := te) (n := n) h1 h2
  unfold held at *
  have e1 : (cur.take fr ++ cur.drop te).take fr = cur.take fr := by rw [List.take_append_of_le_length (by simp; omega), List.take_take, Nat.min_self]
  rw [e1] at this ⊢
  rw [List.append_cancel_left this]

/-- Laid into wider memory. -/
theorem held_wide {fr te T M : Nat} {cur : List Int} (h1 : fr ≤ te) (h2 : te ≤ cur.length) (h3 : fr ≤ T) (h4 : T + (cur.length - te) = M) :
    held fr T (splice (splice (List.replicate M 0) 0 (cur.take fr)) T (cur.drop te)) = held fr te cur := by
  have e1 : (cur.take fr).length = fr := by simp; omega
  have e2 : (cur.drop te).length = cur.length - te := by simp
  have l1 : (splice (List.replicate M (0 : Int)) 0 (cur.take fr)).length = M := (length_splice _ _ _ (by simp; omega)).trans (by simp)
  have l2 : (splice (splice (List.replicate M (0 : Int)) 0 (cur.take fr)) T (cur.drop te)).length = M := (length_splice _ _ _ (by omega)).trans l1
  apply List.ext_getElem?
  intro j
  rw [held_get (by omega), held_get (by omega)]
  have g1 (i : Nat) := splice_get (cur := List.replicate M (0 : Int)) (cs := cur.take fr) (off := 0) (j := i) (by simp; omega)
  have g2 (i : Nat) := splice_get (cur := splice (List.replicate M (0 : Int)) 0 (cur.take fr)) (cs := cur.drop te) (off := T) (j := i) (by rw [l1]; omega)
  rw [g2, g2, g1, g1, e1, e2]
  by_cases c1 : j < fr
  · rw [if_pos c1, if_pos (by omega), if_neg (by omega), if_pos (by omega), if_pos c1, List.getElem?_take, Nat.sub_zero, if_pos c1]
  · rw [if_neg c1, if_neg (by omega), if_neg c1]
    by_cases c2 : T + (j - fr) < T + (cur.length - te)
    · rw [if_pos c2, List.getElem?_drop]
      congr 1; omega
    · rw [if_neg c2, if_neg (by omega), if_neg (by omega), List.getElem?_eq_none (by simp; omega), List.getElem?_eq_none (by omega)]
end Go.Proofs.Ytganehhcnflgaaa
