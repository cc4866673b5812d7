/- keys: a paste's bytes fed one behind the other: pure. -/
import Derived.Test.YtkkenabckhmkoaaKyV
namespace Go.Proofs.Ytkkenabckhmkoaa
open Go.RowKit
set_option linter.unusedVariables false
set_option linter.unusedSimpArgs false
set_option maxRecDepth 100000

def pasteHead : List Int := [27, 91, 50, 48, 48, 126]
def clP (t : List Int) : Nat := t.foldl closesK 0
theorem clP_snoc (t : List Int) (b : Int) : clP (t ++ [b]) = closesK (clP t) b := by simp [clP]
/-- Where what ends a paste does not stand, it isn't told. -/
structure EndAt (t : List Int) (c : Nat) : Prop where
  lt : c < 6
  le : c ≤ t.length
  eq : ∀ q, q < c → t[t.length - c + q]? = pasteEnd[q]?
theorem endAt_step {t : List Int} {c : Nat} {b : Int} (h : EndAt t c) (hn : ¬ (c = 5 ∧ b = 126)) : EndAt (t ++ [b]) (closesK c b) := by
  have hlen : (t ++ [b]).length = t.length + 1 := by simp
  have hlt := h.lt
  have hle := h.le
  unfold closesK
  by_cases h1 : b = pasteEnd.getD c 0
  · rw [if_pos h1]
    have hc5 : c ≠ 5 := by
      rintro rfl
      exact hn ⟨rfl, h1⟩
    refine ⟨by omega, by rw [hlen]; omega, fun q hq => ?_⟩
    rw [hlen, show t.length + 1 - (c + 1) + q = t.length - c + q by omega]
    rcases Nat.lt_or_ge q c with h2 | h2
    · rw [List.getElem?_append_left (by omega)]
      exact h.eq q h2
    · obtain rfl : q = c := by omega
      rw [show t.length - q + q = t.length by omega, List.getElem?_append_right (Nat.le_refl _), Nat.sub_self]
      rw [h1]
      have : q < pasteEnd.length := h.lt
      simp [List.getD, List.getElem?_eq_getElem this]
  · rw [if_neg h1]
    by_cases h2 : b = 27
    · rw [if_pos h2]
      refine ⟨by omega, by rw [hlen]; omega, fun q hq => ?_⟩
      obtain rfl : q = 0 := by omega
      rw [hlen, show t.length + 1 - 1 + 0 = t.length by omega, List.getElem?_append_right (Nat.le_refl _), Nat.sub_self, h2]
      rfl
    · rw [if_neg h2]
      exact ⟨by omega, Nat.zero_le _, fun q hq => by omega⟩
theorem endAt_any (L : List Int) (hno : ∀ i, i + 6 ≤ L.length → (L.drop i).take 6 ≠ pasteEnd) : ∀ j, j ≤ L.length + 5 → EndAt ((L ++ pasteEnd).take j) (clP ((L ++ pasteEnd).take j))
  | 0, _ => ⟨by simp [clP], by simp [clP], fun q hq => by simp [clP] at hq⟩
  | j + 1, hj => by
    have ih := endAt_any L hno j (by omega)
    have hlen : (L ++ pasteEnd).length = L.length + 6 := by simp [pasteEnd]
    obtain ⟨b, hb⟩ : ∃ b, (L ++ pasteEnd)[j]? = some b := ⟨_, List.getElem?_eq_getElem (by rw [hlen]; omega)⟩
    have htl : ((L ++ pasteEnd).take j).length = j := by rw [List.length_take, hlen]; omega
    rw [take_snoc' hb, clP_snoc]
    refine endAt_step ih ?_
    rintro ⟨h5, h126⟩
    have h1 := ih.eq
    have h2 := ih.le
    rw [htl] at h1 h2
    rw [h5] at h1 h2
    -- all six stand at j - 5
    have h3 : ∀ q, q < 6 → (L ++ pasteEnd)[j - 5 + q]? = pasteEnd[q]? := by
      intro q hq
      rcases Nat.lt_or_ge q 5 with h4 | h4
      · have h6 := h1 q h4
        rw [List.getElem?_take, if_pos (by omega)] at h6
        exact h6
      · obtain rfl : q = 5 := by omega
        rw [show j - 5 + 5 = j by omega, hb, h126]
        rfl
    rcases Nat.lt_or_ge L.length (j - 5 + 6) with h4 | h4
    · -- they lie over the end of L
      have h6 := h3 (L.length - (j - 5)) (by omega)
      rw [show j - 5 + (L.length - (j - 5)) = L.length by omega, List.getElem?_append_right (Nat.le_refl _), Nat.sub_self] at h6
      obtain ⟨d, hd⟩ : ∃ d, L.length - (j - 5) = d := ⟨_, rfl⟩
      rw [hd] at h6
      have hd1 : 1 ≤ d ∧ d < 6 := by omega
      obtain ⟨hd1, hd2⟩ := hd1
      obtain rfl | rfl | rfl | rfl | rfl : d = 1 ∨ d = 2 ∨ d = 3 ∨ d = 4 ∨ d = 5 := by omega
      all_goals simp [pasteEnd] at h6
    · refine hno (j - 5) h4 ?_
      apply List.ext_getElem?
      intro q
      rw [List.getElem?_take]
      by_cases hq : q < 6
      · rw [if_pos hq, List.getElem?_drop]
        have h6 := h3 q hq
        rw [List.getElem?_append_left (by omega)] at h6
        exact h6
      · rw [if_neg hq, List.getElem?_eq_none (by simp [pasteEnd]; omega)]
theorem clP_end (L : List Int) (h : clP L < 6) : clP (L ++ [27, 91, 50, 48, 49]) = 5 := by
  unfold clP at h ⊢
  rw [List.foldl_append]
  obtain ⟨c, hc⟩ : ∃ c, L.foldl closesK 0 = c := ⟨_, rfl⟩
  rw [hc] at h ⊢
  have : ∀ c, c < 6 → [27, 91, 50, 48, 49].foldl closesK c = 5 := by decide
  exact this c h
/-- The parser within a paste: what has come of it. -/
def ksP (t : List Int) : KS := ⟨4, DS.zero, false, ⟨#[]⟩, t.reverse, clP t⟩
/-- The parser behind i bytes of a paste of L. -/
def stP (L : List Int) (i : Nat) : KS :=
  if i = 0 then KS.zero else if i = 1 then KS.at 1 else if i = 2 then KS.at 2 else if i = 3 then ⟨2, DS.zero, false, ⟨#[50]⟩, [], 0⟩ else if i = 4 then ⟨2, DS.zero, false, ⟨#[50, 48]⟩, [], 0⟩ else if i = 5 then ⟨2, DS.zero, false, ⟨#[50, 48, 48]⟩, [], 0⟩
  else ksP ((L ++ pasteEnd).take (i - 6))
theorem feed_head (L : List Int) : ∀ i, i < 6 → feedK (stP L i) (pasteHead.getD i 0) = (stP L (i + 1), []) := by
  intro i hi
  obtain rfl | rfl | rfl | rfl | rfl | rfl : i = 0 ∨ i = 1 ∨ i = 2 ∨ i = 3 ∨ i = 4 ∨ i = 5 := by omega
  all_goals rfl
theorem feed_in (t : List Int) (b : Int) (h : clP (t ++ [b]) < 6) : feedK (ksP t) b = (ksP (t ++ [b]), []) := by
  rw [clP_snoc] at h
  unfold ksP
  rw [clP_snoc, List.reverse_append]
  unfold feedK
  dsimp only
  rw [if_neg (by decide), if_neg (by decide), if_neg (by decide), if_pos rfl]
  unfold inPasteK
  rw [if_pos h]
  rfl
theorem feed_out (L : List Int) (h : clP L < 6) : feedK (ksP (L ++ [27, 91, 50, 48, 49])) 126 = (KS.zero, [⟨4, 0, false, decD L⟩]) := by
  have h5 := clP_end L h
  unfold ksP
  rw [h5]
  unfold feedK
  dsimp only
  rw [if_neg (by decide), if_neg (by decide), if_neg (by decide), if_pos rfl]
  unfold inPasteK
  rw [if_neg (by decide)]
  have e : ((126 :: (L ++ [27, 91, 50, 48, 49]).reverse).reverse.take ((126 :: (L ++ [27, 91, 50, 48, 49]).reverse).length - 6)) = L := by
    simp [List.take_append]
  rw [e]
def allP (L : List Int) : List Int := pasteHead ++ (L ++ pasteEnd)
theorem allP_len (L : List Int) : (allP L).length = L.length + 12 := by simp [allP, pasteHead, pasteEnd]
/-- A paste's bytes, one by one: only the last one tells a key. -/
theorem feed_paste (L : List Int) (hno : ∀ i, i + 6 ≤ L.length → (L.drop i).take 6 ≠ pasteEnd) (i : Nat) (b : Int) (hb : (allP L)[i]? = some b) :
    feedK (stP L i) b = if i + 1 = L.length + 12 then (KS.zero, [⟨4, 0, false, decD L⟩]) else (stP L (i + 1), []) := by
  have hi : i < L.length + 12 := by rw [← allP_len]; exact (List.getElem?_eq_some_iff.1 hb).1
  rcases Nat.lt_or_ge i 6 with h6 | h6
  · rw [if_neg (by omega)]
    have : b = pasteHead.getD i 0 := by
      have h7 : (pasteHead ++ (L ++ pasteEnd))[i]? = some b := hb
      rw [List.getElem?_append_left (by simpa [pasteHead] using h6)] at h7
      simp [List.getD, h7]
    rw [this]
    exact feed_head L i h6
  · have h7 : (L ++ pasteEnd)[i - 6]? = some b := by
      have h8 : (pasteHead ++ (L ++ pasteEnd))[i]? = some b := hb
      rw [List.getElem?_append_right (by simpa [pasteHead] using h6)] at h8
      exact h8
    have e1 : stP L i = ksP ((L ++ pasteEnd).take (i - 6)) := by
      unfold stP
      rw [if_neg (by omega), if_neg (by omega), if_neg (by omega), if_neg (by omega), if_neg (by omega), if_neg (by omega)]
    have e2 : stP L (i + 1) = ksP ((L ++ pasteEnd).take (i - 6 + 1)) := by
      unfold stP
      rw [if_neg (by omega), if_neg (by omega), if_neg (by omega), if_neg (by omega), if_neg (by omega), if_neg (by omega), show i + 1 - 6 = i - 6 + 1 by omega]
    rw [e1]
    by_cases hl : i + 1 = L.length + 12
    · rw [if_pos hl]
      have h9 : b = 126 := by
        rw [show i - 6 = L.length + 5 by omega, List.getElem?_append_right (by omega), show L.length + 5 - L.length = 5 by omega] at h7
        exact (Option.some.inj h7).symm
      have h10 : (L ++ pasteEnd).take (i - 6) = L ++ [27, 91, 50, 48, 49] := by
        rw [show i - 6 = L.length + 5 by omega, List.take_append, List.take_of_length_le (by omega), show L.length + 5 - L.length = 5 by omega]
        rfl
      have h11 : clP L < 6 := by
        have := (endAt_any L hno L.length (by omega)).lt
        rw [List.take_left] at this
        exact this
      rw [h9, h10]
      exact feed_out L h11
    · rw [if_neg hl, e2]
      have h12 := (endAt_any L hno (i - 6 + 1) (by omega)).lt
      rw [take_snoc' h7] at h12 ⊢
      exact feed_in _ _ h12
theorem stP_tx (L : List Int) (i : Nat) : (stP L i).tx.length ≤ i := by
  unfold stP
  split
  · simp [KS.zero]
  split
  · simp [KS.at]
  split
  · simp [KS.at]
  split
  · simp
  split
  · simp
  split
  · simp
  · simp [ksP]; omega
theorem tick_paste (L : List Int) (i : Nat) (hi : 5 < i) : tickK (stP L i) = (stP L i, []) := by
  unfold stP
  rw [if_neg (by omega), if_neg (by omega), if_neg (by omega), if_neg (by omega), if_neg (by omega), if_neg (by omega)]
  rfl
end Go.Proofs.Ytkkenabckhmkoaa
