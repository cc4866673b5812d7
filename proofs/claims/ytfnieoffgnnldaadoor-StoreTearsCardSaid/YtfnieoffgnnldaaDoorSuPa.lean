/- utf: what a scalar's bytes are, and that they are decoded into it. -/
import Derived.Test.YtfnieoffgnnldaaDoorSuM
import Derived.Laws.BytesArg
namespace Go.Proofs.YtfnieoffgnnldaaDoor
open Go.RowKit
set_option linter.unusedVariables false
set_option linter.unusedSimpArgs false

/-- Is it a scalar? -/
def okS (r : Int) : Bool := (decide (0 ≤ r) && decide (r < 55296)) || (decide (57343 < r) && decide (r ≤ 1114111))
def scal (r : Int) : Int := if okS r = true then r else 65533
def putI (n : Int) : List Int :=
  if n < 128 then [n] else if n < 2048 then [192 + n / 64, 128 + n % 64] else if n < 65536 then [224 + n / 4096, 128 + n / 64 % 64, 128 + n % 64]
  else [240 + n / 262144, 128 + n / 4096 % 64, 128 + n / 64 % 64, 128 + n % 64]
def putS (r : Int) : List Int := putI (scal r)
def encI : List Int → List Int
  | [] => []
  | r :: l => putS r ++ encI l

theorem okS_iff (r : Int) : okS r = true ↔ (0 ≤ r ∧ r < 55296) ∨ (57343 < r ∧ r ≤ 1114111) := by simp [okS]
theorem scal_rng (r : Int) : (0 ≤ scal r ∧ scal r < 55296) ∨ (57343 < scal r ∧ scal r ≤ 1114111) := by
  unfold scal
  split
  · exact (okS_iff r).1 ‹_›
  · omega

theorem encI_append (a b : List Int) : encI (a ++ b) = encI a ++ encI b := by
  induction a with
  | nil => rfl
  | cons x a ih => simp [encI, ih]

theorem putI_range (n : Int) (h0 : 0 ≤ n) (h1 : n ≤ 1114111) : (∀ b ∈ putI n, 0 ≤ b ∧ b ≤ 255) ∧ 1 ≤ (putI n).length ∧ (putI n).length ≤ 4 := by
  unfold putI
  split
  · simp; omega
  · split
    · simp; omega
    · split
      · simp; omega
      · simp; omega

theorem putS_range (r : Int) : (∀ b ∈ putS r, 0 ≤ b ∧ b ≤ 255) ∧ 1 ≤ (putS r).length ∧ (putS r).length ≤ 4 := by
  have h := scal_rng r
  exact putI_range _ (by omega) (by omega)

theorem encI_range : ∀ (l : List Int), ∀ b ∈ encI l, 0 ≤ b ∧ b ≤ 255
  | [], b, h => by simp [encI] at h
  | r :: l, b, h => by
    simp only [encI, List.mem_append] at h
    rcases h with h | h
    · exact (putS_range r).1 b h
    · exact encI_range l b h

theorem encI_len : ∀ (l : List Int), (encI l).length ≤ 4 * l.length
  | [] => by simp [encI]
  | r :: l => by
    have h1 := (putS_range r).2.2
    have h2 := encI_len l
    simp only [encI, List.length_append, List.length_cons]
    omega

theorem dec_put (n : Int) (h : (0 ≤ n ∧ n < 55296) ∨ (57343 < n ∧ n ≤ 1114111)) (t : List Int) : decF DS.zero (putI n ++ t) = n :: decF DS.zero t := by
  unfold putI
  split
  · exact decF_one (by simp [rowN, *])
  · split
    · have hc : rowN (192 + n / 64) = 2 := by
        unfold rowN; rw [if_neg (by omega), if_neg (by omega), if_pos (by omega)]
      have hl : longI (192 + n / 64) = 2 := by rw [long_is (by omega), hc]
      have := (dec_row (192 + n / 64) ((128 + n % 64) :: t) 2 (by omega) (by simp) (by omega) (fun j hj => by
        obtain rfl | rfl : j = 0 ∨ j = 1 := by omega
        · simp [MayI]; omega
        · simp only [MayI, List.getD_cons_succ, List.getD_cons_zero]
          rw [if_neg (by omega), if_neg (by omega), if_neg (by omega), if_neg (by omega), if_neg (by omega)]
          omega)).1 (by omega)
      simp only [List.cons_append, List.nil_append]
      rw [this]
      simp [valI]
      omega
    · split
      · have hc : rowN (224 + n / 4096) = 3 := by
          unfold rowN; rw [if_neg (by omega), if_neg (by omega), if_neg (by omega), if_pos (by omega)]
        have hl : longI (224 + n / 4096) = 3 := by rw [long_is (by omega), hc]
        have := (dec_row (224 + n / 4096) ((128 + n / 64 % 64) :: (128 + n % 64) :: t) 3 (by omega) (by simp) (by omega) (fun j hj => by
          obtain rfl | rfl | rfl : j = 0 ∨ j = 1 ∨ j = 2 := by omega
          · simp [MayI]; omega
          · simp only [MayI, List.getD_cons_succ, List.getD_cons_zero]
            rw [if_neg (by omega)]
            split
            · omega
            · split
              · omega
              · rw [if_neg (by omega), if_neg (by omega)]
                omega
          · simp only [MayI, List.getD_cons_succ, List.getD_cons_zero]
            rw [if_neg (by omega), if_neg (by omega), if_neg (by omega), if_neg (by omega), if_neg (by omega)]
            omega)).1 (by omega)
        simp only [List.cons_append, List.nil_append]
        rw [this]
        simp [valI]
        omega
      · have hc : rowN (240 + n / 262144) = 4 := by
          unfold rowN; rw [if_neg (by omega), if_neg (by omega), if_neg (by omega), if_neg (by omega)]
        have hl : longI (240 + n / 262144) = 4 := by rw [long_is (by omega), hc]
        have := (dec_row (240 + n / 262144) ((128 + n / 4096 % 64) :: (128 + n / 64 % 64) :: (128 + n % 64) :: t) 4 (by omega) (by simp) (by omega) (fun j hj => by
          obtain rfl | rfl | rfl | rfl : j = 0 ∨ j = 1 ∨ j = 2 ∨ j = 3 := by omega
          · simp [MayI]; omega
          · simp only [MayI, List.getD_cons_succ, List.getD_cons_zero]
            rw [if_neg (by omega), if_neg (by omega), if_neg (by omega)]
            split
            · omega
            · split
              · omega
              · omega
          · simp only [MayI, List.getD_cons_succ, List.getD_cons_zero]
            rw [if_neg (by omega), if_neg (by omega), if_neg (by omega), if_neg (by omega), if_neg (by omega)]
            omega
          · simp only [MayI, List.getD_cons_succ, List.getD_cons_zero]
            rw [if_neg (by omega), if_neg (by omega), if_neg (by omega), if_neg (by omega), if_neg (by omega)]
            omega)).1 (by omega)
        simp only [List.cons_append, List.nil_append]
        rw [this]
        simp [valI]
        omega

/-- Scalars that were encoded are decoded as they were, and what is none as Bad. -/
theorem dec_enc (l : List Int) : decD (encI l) = l.map scal := by
  rw [decD_is]
  induction l with
  | nil => simp [encI, decF, endD, DS.zero]
  | cons r l ih =>
    simp only [encI, List.map_cons]
    rw [putS, dec_put _ (scal_rng r), ih]

/-- How far a row goes. -/
theorem row_far (c : Int) (t : List Int) : ∀ (d k : Nat), 0 < k → longI c - k ≤ d → (k : Int) ≤ longI c → k ≤ t.length + 1 → (∀ j, j < k → MayI c j ((c :: t).getD j 0)) →
    ∃ n, 0 < n ∧ n ≤ t.length + 1 ∧ (n : Int) ≤ longI c ∧ (∀ j, j < n → MayI c j ((c :: t).getD j 0)) ∧ ((n : Int) = longI c ∨ n = t.length + 1 ∨ ¬ MayI c n ((c :: t).getD n 0))
  | 0, k, h0, hd, hl, ht, hm => ⟨k, h0, ht, hl, hm, .inl (by omega)⟩
  | d + 1, k, h0, hd, hl, ht, hm => by
    by_cases h1 : (k : Int) = longI c
    · exact ⟨k, h0, ht, hl, hm, .inl h1⟩
    · by_cases h2 : k = t.length + 1
      · exact ⟨k, h0, ht, hl, hm, .inr (.inl h2)⟩
      · by_cases h3 : MayI c k ((c :: t).getD k 0)
        · exact row_far c t d (k + 1) (by omega) (by omega) (by omega) (by omega) fun j hj => by
            by_cases hjk : j = k
            · subst hjk; exact h3
            · exact hm j (by omega)
        · exact ⟨k, h0, ht, hl, hm, .inr (.inr h3)⟩

theorem putS_of {v : Int} {l : List Int} (h : (0 ≤ v ∧ v < 55296) ∨ (57343 < v ∧ v ≤ 1114111)) (hp : putI v = l) : putS v = l := by
  unfold putS scal
  rw [if_pos ((okS_iff v).2 h)]
  exact hp

/-- Bytes that are decoded without any Bad are encoded as they were. -/
theorem enc_dec : ∀ (m : Nat) (bs : List Int), bs.length ≤ m → (∀ b ∈ bs, 0 ≤ b ∧ b ≤ 255) → 65533 ∉ decF DS.zero bs → encI (decF DS.zero bs) = bs
  | _, [], _, _, _ => by simp [decF, endD, DS.zero, encI]
  | 0, c :: t, hm, _, _ => by simp at hm
  | m + 1, c :: t, hm, hr, hb => by
    have hc := hr c (by simp)
    by_cases h0 : rowN c = 0
    · rw [decF_none h0] at hb
      simp at hb
    · by_cases h1 : rowN c = 1
      · rw [decF_one h1] at hb ⊢
        have hc' : c < 128 := by
          unfold rowN at h1
          by_cases hlt : c < 128
          · exact hlt
          · rw [if_neg hlt] at h1
            split at h1
            · omega
            · split at h1
              · omega
              · split at h1 <;> omega
        have hp : putS c = [c] := putS_of (by omega) (by unfold putI; rw [if_pos hc'])
        simp only [encI, hp]
        rw [enc_dec m t (by simp at hm; omega) (fun b hbm => hr b (by simp [hbm])) (fun h => hb (by simp [h]))]
        rfl
      · have hr4 := rowN_le c
        have h2 : 2 ≤ rowN c := by
          unfold rowN at h0 h1 ⊢
          split at h0
          · simp_all
          · split at h0
            · simp_all
            · rw [if_neg ‹_›, if_neg ‹_›]
              split
              · omega
              · split <;> omega
        have hlong := long_is h0
        obtain ⟨n, n0, nL, nl, nm, nx⟩ := row_far c t 4 1 (by omega) (by omega) (by omega) (by omega) (fun j hj => by
          obtain rfl : j = 0 := by omega
          exact may_zero.2 h0)
        obtain ⟨D1, D2⟩ := dec_row c t n n0 nL nl nm
        by_cases hn : (n : Int) = longI c
        · have hd := D1 hn
          rw [hd] at hb ⊢
          simp only [List.mem_cons, not_or] at hb
          have hrest := enc_dec m ((c :: t).drop n) (by simp at hm ⊢; omega) (fun b hbm => hr b (List.mem_of_mem_drop hbm)) hb.2
          simp only [encI]
          rw [hrest]
          have hput : putS (valI ((c :: t).take n)) = (c :: t).take n := by
            have hR := rowN_two h2
            have hcs : rowN c = if c < 224 then 2 else if c < 240 then 3 else 4 := by
              unfold rowN; rw [if_neg (by omega), if_neg (by omega)]
            rw [hlong] at hn
            obtain hn2 | hn3 | hn4 : n = 2 ∨ n = 3 ∨ n = 4 := by omega
            · subst hn2
              match t, nL with
              | b :: t, _ =>
                have m1 := nm 1 (by omega)
                have b1 := may_cont (i := 1) (by decide) m1
                simp only [List.getD_cons_succ, List.getD_cons_zero] at b1
                have hc2 : c < 224 := by
                  by_cases h : c < 224
                  · exact h
                  · rw [hcs, if_neg h] at hn; split at hn <;> omega
                simp only [List.take_succ_cons, List.take_zero, valI]
                refine putS_of (by omega) ?_
                unfold putI
                rw [if_neg (by omega), if_pos (by omega)]
                congr 1
                · omega
                · congr 1; omega
            · subst hn3
              match t, nL with
              | b :: d :: t, _ =>
                have m1 := nm 1 (by omega)
                have m2 := nm 2 (by omega)
                have b1 := may_cont (i := 1) (by decide) m1
                have b2 := may_cont (i := 2) (by decide) m2
                simp only [List.getD_cons_succ, List.getD_cons_zero] at b1 b2 m1
                have hc2 : 224 ≤ c ∧ c < 240 := by
                  by_cases h : c < 224
                  · rw [hcs, if_pos h] at hn; omega
                  · rw [hcs, if_neg h] at hn; split at hn <;> omega
                have e1 : c = 224 → 160 ≤ b := fun e => by
                  subst e; simp [MayI] at m1; omega
                have e2 : c = 237 → b ≤ 159 := fun e => by
                  subst e; simp [MayI] at m1; omega
                simp only [List.take_succ_cons, List.take_zero, valI]
                refine putS_of (by omega) ?_
                unfold putI
                rw [if_neg (by omega), if_neg (by omega), if_pos (by omega)]
                congr 1
                · omega
                · congr 1
                  · omega
                  · congr 1; omega
              | [b], hL => simp at hL
            · subst hn4
              match t, nL with
              | b :: d :: x :: t, _ =>
                have m1 := nm 1 (by omega)
                have m2 := nm 2 (by omega)
                have m3 := nm 3 (by omega)
                have b1 := may_cont (i := 1) (by decide) m1
                have b2 := may_cont (i := 2) (by decide) m2
                have b3 := may_cont (i := 3) (by decide) m3
                simp only [List.getD_cons_succ, List.getD_cons_zero] at b1 b2 b3 m1
                have hc2 : 240 ≤ c := by
                  by_cases h : c < 224
                  · rw [hcs, if_pos h] at hn; omega
                  · rw [hcs, if_neg h] at hn; split at hn <;> omega
                have e1 : c = 240 → 144 ≤ b := fun e => by
                  subst e; simp [MayI] at m1; omega
                have e2 : c = 244 → b ≤ 143 := fun e => by
                  subst e; simp [MayI] at m1; omega
                simp only [List.take_succ_cons, List.take_zero, valI]
                refine putS_of (by omega) ?_
                unfold putI
                rw [if_neg (by omega), if_neg (by omega), if_neg (by omega)]
                congr 1
                · omega
                · congr 1
                  · omega
                  · congr 1
                    · omega
                    · congr 1; omega
              | [b], hL => simp at hL
              | [b, d], hL => simp at hL
          rw [hput, List.take_append_drop]
        · have hd := D2 (by omega) (by rcases nx with h | h | h; exact absurd h hn; exact .inl h; exact .inr h)
          rw [hd] at hb
          simp at hb

/-- A text's bytes as a text. -/
theorem str_bts (s : ByteArray) : strOfNums (bts s) = s := by
  have : (bts s).map (fun n => UInt8.ofNat n.toNat) = s.data.toList := by
    simp [bts, List.map_map]
    conv => rhs; rw [← List.map_id s.data.toList]
    apply List.map_congr_left
    intro a _
    simp
  unfold strOfNums
  rw [this]
theorem bts_str (l : List Int) (h : ∀ b ∈ l, 0 ≤ b ∧ b ≤ 255) : bts (strOfNums l) = l := by
  simp only [bts, strOfNums_data, List.map_map]
  conv => rhs; rw [← List.map_id l]
  apply List.map_congr_left
  intro a ha
  have := h a ha
  simp [UInt8.toNat_ofNat]
  omega

end Go.Proofs.YtfnieoffgnnldaaDoor
