/- script: a number that is written as it is printed: pure. -/
import Derived.Test.YtjkhkohlejkdlaaDoorScC
import Derived.Lib.ItoaNum
namespace Go.Proofs.YtjkhkohlejkdlaaDoor
open Go.RowKit
set_option linter.unusedVariables false
set_option linter.unusedSimpArgs false

def isDig (c : UInt8) : Prop := 48 ≤ c.toNat ∧ c.toNat ≤ 57
def valL (l : List UInt8) : Nat := l.foldl (fun n c => n * 10 + (c.toNat - 48)) 0
theorem valL_snoc (l : List UInt8) (c : UInt8) : valL (l ++ [c]) = valL l * 10 + (c.toNat - 48) := by simp [valL]
theorem numL_fold : ∀ (l : List UInt8) (n m : Nat), numL n l = some m → (∀ c ∈ l, isDig c) ∧ m = l.foldl (fun n c => n * 10 + (c.toNat - 48)) n
  | [], n, m, h => by
    injection h with h
    exact ⟨fun c hc => (by cases hc), h.symm⟩
  | c :: t, n, m, h => by
    have h' : (if 48 ≤ c.toNat ∧ c.toNat ≤ 57 then numL (n * 10 + (c.toNat - 48)) t else none) = some m := h
    split at h'
    · rename_i hc
      obtain ⟨h1, h2⟩ := numL_fold t _ m h'
      refine ⟨fun x hx => ?_, h2⟩
      rcases List.mem_cons.1 hx with rfl | hx
      · exact hc
      · exact h1 x hx
    · cases h'
theorem digit_of {c : UInt8} (h : isDig c) : UInt8.ofNat (48 + (c.toNat - 48)) = c := by
  rw [show 48 + (c.toNat - 48) = c.toNat by have := h.1; omega]
  exact UInt8.ofNat_toNat
theorem dec_step {n d : Nat} (hn : 1 ≤ n) (hd : d ≤ 9) : Lib.decDigits (n * 10 + d) = Lib.decDigits n ++ [UInt8.ofNat (48 + d)] := by
  rw [Lib.decDigits, dif_neg (by omega), show (n * 10 + d) / 10 = n by omega, show (n * 10 + d) % 10 = d by omega]
theorem snoc_cases (l : List UInt8) : l = [] ∨ ∃ t c, l = t ++ [c] := by
  rcases List.eq_nil_or_concat l with h | ⟨t, c, h⟩
  · exact .inl h
  · exact .inr ⟨t, c, by rw [h]; simp⟩
/-- Written as it is printed. -/
theorem dec_val : ∀ (k : Nat) (l : List UInt8), l.length = k → l ≠ [] → (∀ c ∈ l, isDig c) → (l.getD 0 0).toNat ≠ 48 → Lib.decDigits (valL l) = l ∧ 1 ≤ valL l := by
  intro k
  induction k with
  | zero => intro l h h0; exact absurd (List.eq_nil_of_length_eq_zero h) h0
  | succ k ih =>
    intro l h h0 hd hz
    rcases snoc_cases l with e | ⟨t, c, rfl⟩
    · exact absurd e h0
    have hc := hd c (by simp)
    rw [valL_snoc]
    have hdc : c.toNat - 48 ≤ 9 := by have := hc.2; omega
    rcases Decidable.em (t = []) with rfl | ht
    · have hz' : c.toNat ≠ 48 := hz
      have h1 := hc.1
      have : valL ([] : List UInt8) = 0 := rfl
      rw [this, Nat.zero_mul, Nat.zero_add]
      exact ⟨by rw [Lib.decDigits_one (by omega), digit_of hc]; rfl, by omega⟩
    · have hg : ((t ++ [c]).getD 0 0) = t.getD 0 0 := by
        cases t with
        | nil => exact absurd rfl ht
        | cons x r => rfl
      rw [hg] at hz
      obtain ⟨h1, h2⟩ := ih t (by simp at h; omega) ht (fun x hx => hd x (by simp [hx])) hz
      exact ⟨by rw [dec_step h2 hdc, h1, digit_of hc], by omega⟩
theorem val_lt : ∀ (k : Nat) (l : List UInt8), l.length = k → (∀ c ∈ l, isDig c) → valL l < 10 ^ k := by
  intro k
  induction k with
  | zero => intro l h _; rw [List.eq_nil_of_length_eq_zero h]; decide
  | succ k ih =>
    intro l h hd
    rcases snoc_cases l with rfl | ⟨t, c, rfl⟩
    · cases h
    have hc := hd c (by simp)
    have h1 := ih t (by simp at h; omega) (fun x hx => hd x (by simp [hx]))
    have h2 := hc.2
    rw [valL_snoc, Nat.pow_succ]
    omega
theorem dec_len : ∀ (k n : Nat), 1 ≤ k → n < 10 ^ k → (Lib.decDigits n).length ≤ k := by
  intro k
  induction k with
  | zero => intro n h; omega
  | succ k ih =>
    intro n _ h
    rw [Lib.decDigits]
    split
    · simp
    · rename_i h10
      rw [Nat.pow_succ] at h
      have hk : 1 ≤ k := by
        cases k with
        | zero => simp at h; omega
        | succ k => omega
      have := ih (n / 10) hk (by omega)
      simp only [List.length_append, List.length_singleton]
      omega
theorem zero_val (t : List UInt8) (c : UInt8) (hc : c.toNat = 48) : valL (c :: t) = valL t := by
  unfold valL
  rw [List.foldl_cons, hc]
/-- The program's test is the document's. -/
theorem number_is {l : List UInt8} {n : Nat} (h4 : l.length ≤ 4) (h : numL 0 l = some n) : (Lib.decDigits n = l ↔ numO l = some n) ∧ (Lib.decDigits n ≠ l → numO l = none) := by
  obtain ⟨hd, hn⟩ := numL_fold l 0 n h
  have hv : n = valL l := hn
  unfold numO
  by_cases h0 : l.length < 1
  · have e : l = [] := List.eq_nil_of_length_eq_zero (by omega)
    subst e
    obtain rfl : n = 0 := hv
    rw [if_pos (.inl h0)]
    exact ⟨⟨fun h => (by rw [Lib.decDigits_one (by decide)] at h; cases h), fun h => (by cases h)⟩, fun _ => rfl⟩
  · by_cases hz : (l.getD 0 0).toNat = 48 ∧ 1 < l.length
    · rw [if_pos (.inr (.inr hz))]
      have hne : Lib.decDigits n ≠ l := by
        intro e
        cases l with
        | nil => exact absurd hz.2 (by simp)
        | cons c t =>
          have hz1 : c.toNat = 48 := hz.1
          rw [zero_val t c hz1] at hv
          have hz2 := hz.2
          simp only [List.length_cons] at hz2
          have h1 := val_lt t.length t rfl (fun x hx => hd x (by simp [hx]))
          have h2 := dec_len t.length n (by omega) (by rw [hv]; exact h1)
          rw [e, List.length_cons] at h2
          omega
      exact ⟨⟨fun h => absurd h hne, fun h => (by cases h)⟩, fun _ => rfl⟩
    · rw [if_neg (by omega), h]
      have key : Lib.decDigits n = l := by
        by_cases hl : (l.getD 0 0).toNat = 48
        · have hl1 : l.length = 1 := by omega
          obtain ⟨c, rfl⟩ := List.length_eq_one_iff.1 hl1
          have hc : c.toNat = 48 := hl
          rw [zero_val [] c hc] at hv
          obtain rfl : n = 0 := hv
          rw [Lib.decDigits_one (by decide)]
          have := digit_of (hd c (by simp))
          rw [hc] at this
          rw [← this]
        · rw [hv]
          exact (dec_val l.length l rfl (fun e => by rw [e] at h0; simp at h0) hd hl).1
      exact ⟨⟨fun _ => rfl, fun _ => key⟩, fun h => absurd key h⟩
end Go.Proofs.YtjkhkohlejkdlaaDoor
