/- store: what is replaced in a text; a line's text: pure. -/
import Derived.Test.YtfnieoffgnnldaaDoorSuPd
import Derived.Lib.Replace
import Derived.Lib.ReplaceLaws
import Derived.Lib.CountLaws
import Derived.Lib.IndexBytes
import Derived.Lib.Bytealg
namespace Go.Proofs.YtfnieoffgnnldaaDoor
open Go.RowKit
set_option linter.unusedVariables false
set_option linter.unusedSimpArgs false

/-- Where a text's first byte of a kind stands. -/
def fnd (c : UInt8) (l : List UInt8) : Nat := (l.takeWhile (fun x => decide (x.toNat ≠ c.toNat))).length
theorem fnd_le (c : UInt8) (l : List UInt8) : fnd c l ≤ l.length := by
  unfold fnd
  exact (List.takeWhile_prefix _).length_le
theorem ib_fnd (c : UInt8) : ∀ l : List UInt8, Lib.indexByte l c = if fnd c l < l.length then (fnd c l : Int) else -1
  | [] => rfl
  | b :: t => by
    have ih := ib_fnd c t
    have hle := fnd_le c t
    show (if b == c then 0 else if Lib.indexByte t c == -1 then -1 else Lib.indexByte t c + 1) = _
    by_cases h : b = c
    · subst h
      have : fnd b (b :: t) = 0 := by unfold fnd; rw [List.takeWhile_cons_of_neg (by simp)]; rfl
      rw [if_pos (by simp), this, if_pos (by simp)]
      rfl
    · have hn : b.toNat ≠ c.toNat := fun e => h (UInt8.toNat_inj.1 e)
      have : fnd c (b :: t) = fnd c t + 1 := by unfold fnd; rw [List.takeWhile_cons_of_pos (by simpa using hn)]; rfl
      rw [if_neg (by simpa using h)]
      by_cases hl : fnd c t < t.length
      · have e1 : Lib.indexByte t c = (fnd c t : Int) := by rw [ih, if_pos hl]
        rw [e1, if_neg (by rw [beq_iff_eq]; omega), this, List.length_cons, if_pos (by omega)]
        rfl
      · have e1 : Lib.indexByte t c = -1 := by rw [ih, if_neg hl]
        rw [e1, if_pos (by decide), this, List.length_cons, if_neg (by omega)]
theorem tw_mem {p : UInt8 → Bool} {x : UInt8} : ∀ l : List UInt8, x ∈ l.takeWhile p → p x = true
  | [], h => by cases h
  | b :: t, h => by
    by_cases hb : p b = true
    · rw [List.takeWhile_cons_of_pos hb] at h
      rcases List.mem_cons.1 h with rfl | h
      · exact hb
      · exact tw_mem t h
    · rw [List.takeWhile_cons_of_neg hb] at h
      cases h
theorem fnd_take (c : UInt8) (l : List UInt8) : ∀ x ∈ l.take (fnd c l), x.toNat ≠ c.toNat := by
  intro x hx
  have : l.take (fnd c l) = l.takeWhile (fun x => decide (x.toNat ≠ c.toNat)) := by
    unfold fnd
    exact List.prefix_iff_eq_take.1 (List.takeWhile_prefix _) |>.symm
  rw [this] at hx
  have := tw_mem _ hx
  simpa using this
theorem fnd_at {c : UInt8} : ∀ {l : List UInt8}, fnd c l < l.length → ∃ t, l = l.take (fnd c l) ++ c :: t ∧ l.drop (fnd c l + 1) = t ∧ l[fnd c l]? = some c
  | [], h => absurd h (by simp [fnd])
  | b :: t, h => by
    by_cases e : b = c
    · subst e
      have : fnd b (b :: t) = 0 := by unfold fnd; rw [List.takeWhile_cons_of_neg (by simp)]; rfl
      rw [this]
      exact ⟨t, rfl, rfl, rfl⟩
    · have hn : b.toNat ≠ c.toNat := fun h => e (UInt8.toNat_inj.1 h)
      have h1 : fnd c (b :: t) = fnd c t + 1 := by unfold fnd; rw [List.takeWhile_cons_of_pos (by simpa using hn)]; rfl
      rw [h1] at h ⊢
      obtain ⟨u, h2, h3, h4⟩ := fnd_at (c := c) (l := t) (by simp at h; omega)
      exact ⟨u, by rw [List.take_succ_cons, List.cons_append, ← h2], by rw [List.drop_succ_cons]; exact h3, by rw [List.getElem?_cons_succ]; exact h4⟩
/-- A text in which each byte of a kind is another text. -/
def escB (c : UInt8) (new : List UInt8) (s : List UInt8) : List UInt8 := s.flatMap fun b => if b = c then new else [b]
theorem escB_app (c : UInt8) (new a b : List UInt8) : escB c new (a ++ b) = escB c new a ++ escB c new b := by simp [escB]
theorem escB_none {c : UInt8} {new : List UInt8} : ∀ {s : List UInt8}, (∀ x ∈ s, x.toNat ≠ c.toNat) → escB c new s = s
  | [], _ => rfl
  | b :: t, h => by
    have hb : b ≠ c := fun e => h b (by simp) (by rw [e])
    show (if b = c then new else [b]) ++ escB c new t = _
    rw [if_neg hb, escB_none (fun x hx => h x (by simp [hx]))]
    rfl
theorem escB_len (c : UInt8) (new : List UInt8) (hn : 1 ≤ new.length) : ∀ s, (escB c new s).length ≤ s.length * new.length
  | [] => by simp [escB]
  | b :: t => by
    have := escB_len c new hn t
    show ((if b = c then new else [b]) ++ escB c new t).length ≤ _
    rw [List.length_append, List.length_cons, Nat.add_mul, Nat.one_mul]
    split
    · omega
    · simp only [List.length_cons, List.length_nil]; omega
theorem repl_one (c : UInt8) (new : List UInt8) : ∀ (k : Nat) (s : List UInt8), s.length ≤ k → Lib.replaceK [c] new (Lib.count s [c]) s = escB c new s := by
  intro k
  induction k with
  | zero =>
    intro s hs
    obtain rfl : s = [] := List.eq_nil_of_length_eq_zero (by omega)
    rfl
  | succ k ih =>
    intro s hs
    have hix : Lib.index s [c] = if fnd c s < s.length then (fnd c s : Int) else -1 := by rw [Lib.index_one, ib_fnd]
    by_cases h : fnd c s < s.length
    · rw [if_pos h] at hix
      obtain ⟨t, h1, h2, h3⟩ := fnd_at h
      have hd : s.drop (fnd c s + 1) = t := h2
      rw [Lib.count_hit (by simp) hix, Nat.add_comm, Lib.replaceK_hit [c] new _ s (fnd c s) hix]
      rw [show ([c] : List UInt8).length = 1 from rfl, hd]
      have hlt : t.length ≤ k := by rw [← hd, List.length_drop]; omega
      rw [ih t hlt]
      conv => rhs; rw [h1]
      rw [escB_app, escB_none (fnd_take c s)]
      show _ = _ ++ ((if c = c then new else [c]) ++ escB c new t)
      rw [if_pos rfl, List.append_assoc]
    · rw [if_neg h] at hix
      have hl : fnd c s = s.length := Nat.le_antisymm (fnd_le c s) (by omega)
      have hn := fnd_take c s
      rw [hl, List.take_length] at hn
      rw [Lib.count_miss hix, escB_none hn]
      rfl
theorem repl_all {c : UInt8} {new : List UInt8} (hn : [c] ≠ new) (s : List UInt8) : Lib.replaceAll s [c] new = escB c new s := by
  unfold Lib.replaceAll Lib.replace
  rw [if_neg (by simpa using hn)]
  unfold Lib.replaceNum
  rw [if_pos (.inl (by decide))]
  exact repl_one c new s.length s (Nat.le_refl _)

/-! ### over numbers -/
def escI (c : Int) (new : List Int) (s : List Int) : List Int := s.flatMap fun b => if b = c then new else [b]
abbrev u8l (l : List Int) : List UInt8 := l.map fun n => UInt8.ofNat n.toNat
theorem u8_eq {a b : Int} (ha : 0 ≤ a ∧ a ≤ 255) (hb : 0 ≤ b ∧ b ≤ 255) : UInt8.ofNat a.toNat = UInt8.ofNat b.toNat ↔ a = b := by
  constructor
  · intro h
    have h2 := congrArg UInt8.toNat h
    rw [UInt8.toNat_ofNat', UInt8.toNat_ofNat'] at h2
    have e1 : a.toNat % 2 ^ 8 = a.toNat := Nat.mod_eq_of_lt (by omega)
    have e2 : b.toNat % 2 ^ 8 = b.toNat := Nat.mod_eq_of_lt (by omega)
    omega
  · intro h; rw [h]
theorem esc_u8 {c : Int} (hc : 0 ≤ c ∧ c ≤ 255) (new : List Int) : ∀ l : List Int, (∀ b ∈ l, 0 ≤ b ∧ b ≤ 255) → escB (UInt8.ofNat c.toNat) (u8l new) (u8l l) = u8l (escI c new l)
  | [], _ => rfl
  | b :: t, h => by
    have ih := esc_u8 hc new t (fun x hx => h x (by simp [hx]))
    have hb := u8_eq (h b (by simp)) hc
    show (if UInt8.ofNat b.toNat = UInt8.ofNat c.toNat then u8l new else [UInt8.ofNat b.toNat]) ++ escB _ _ (u8l t) = u8l ((if b = c then new else [b]) ++ escI c new t)
    rw [ih]
    by_cases e : b = c
    · rw [if_pos e, if_pos (hb.2 e)]; simp [u8l]
    · rw [if_neg e, if_neg (fun h => e (hb.1 h))]; simp [u8l]
theorem escI_app (c : Int) (new a b : List Int) : escI c new (a ++ b) = escI c new a ++ escI c new b := by simp [escI]
theorem escI_none {c : Int} {new : List Int} : ∀ {s : List Int}, c ∉ s → escI c new s = s
  | [], _ => rfl
  | b :: t, h => by
    have hb : b ≠ c := fun e => h (by simp [e])
    show (if b = c then new else [b]) ++ escI c new t = _
    rw [if_neg hb, escI_none (fun hx => h (by simp [hx]))]
    rfl
/-- A line's text. -/
def chT (r : Int) : List Int := if r = 10 then [92, 110] else if r = 92 then [92, 92] else putS r
def txtI (l : List Int) : List Int := l.flatMap chT
theorem scal_id {r : Int} (h0 : 0 ≤ r) (h1 : r < 55296) : scal r = r := by unfold scal; rw [if_pos ((okS_iff r).2 (.inl ⟨h0, h1⟩))]
theorem putS_low {r : Int} (h0 : 0 ≤ r) (h1 : r < 128) : putS r = [r] := by unfold putS; rw [scal_id h0 (by omega)]; unfold putI; rw [if_pos h1]
theorem putS_hi {r : Int} (h : ¬ (0 ≤ r ∧ r < 128)) : ∀ b ∈ putS r, 128 ≤ b := by
  have hr := scal_rng r
  have hs : ¬ scal r < 128 := by
    unfold scal
    split
    · rename_i ho
      have := (okS_iff r).1 ho
      omega
    · omega
  intro b hb
  unfold putS putI at hb
  rw [if_neg hs] at hb
  split at hb
  · simp only [List.mem_cons, List.not_mem_nil, or_false] at hb; omega
  · split at hb
    · simp only [List.mem_cons, List.not_mem_nil, or_false] at hb; omega
    · simp only [List.mem_cons, List.not_mem_nil, or_false] at hb; omega
theorem txt_one (r : Int) : escI 10 [92, 110] (escI 92 [92, 92] (putS r)) = chT r := by
  unfold chT
  by_cases h10 : r = 10
  · subst h10
    rw [if_pos rfl, putS_low (by decide) (by decide)]
    rfl
  · rw [if_neg h10]
    by_cases h92 : r = 92
    · subst h92
      rw [if_pos rfl, putS_low (by decide) (by decide)]
      rfl
    · rw [if_neg h92]
      by_cases h : 0 ≤ r ∧ r < 128
      · rw [putS_low h.1 h.2]
        have e1 : (92 : Int) ∉ [r] := by simp; omega
        have e2 : (10 : Int) ∉ [r] := by simp; omega
        rw [escI_none e1, escI_none e2]
      · have hh := putS_hi h
        rw [escI_none (c := 92) (s := putS r) (fun e => by have := hh _ e; omega), escI_none (c := 10) (s := putS r) (fun e => by have := hh _ e; omega)]
theorem txt_is : ∀ l : List Int, escI 10 [92, 110] (escI 92 [92, 92] (encI l)) = txtI l
  | [] => rfl
  | r :: t => by
    show escI 10 _ (escI 92 _ (putS r ++ encI t)) = chT r ++ txtI t
    rw [escI_app, escI_app, txt_one, txt_is t]
theorem escI_range {c : Int} {new : List Int} (hn : ∀ b ∈ new, 0 ≤ b ∧ b ≤ 255) {l : List Int} (h : ∀ b ∈ l, 0 ≤ b ∧ b ≤ 255) : ∀ b ∈ escI c new l, 0 ≤ b ∧ b ≤ 255 := by
  intro b hb
  unfold escI at hb
  obtain ⟨x, hx, hb⟩ := List.mem_flatMap.1 hb
  split at hb
  · exact hn b hb
  · obtain rfl := List.mem_singleton.1 hb
    exact h _ hx
theorem escI_len (c : Int) (new : List Int) (hn : new.length = 2) : ∀ s, (escI c new s).length ≤ 2 * s.length
  | [] => by simp [escI]
  | b :: t => by
    have := escI_len c new hn t
    show ((if b = c then new else [b]) ++ escI c new t).length ≤ _
    rw [List.length_append, List.length_cons]
    split
    · omega
    · simp only [List.length_cons, List.length_nil]; omega
end Go.Proofs.YtfnieoffgnnldaaDoor
