/- utf: one row of bytes, by the document. -/
import Derived.Test.YtfnieoffgnnldaaDoorSuR
namespace Go.Proofs.YtfnieoffgnnldaaDoor
open Go.RowKit
set_option linter.unusedVariables false
set_option linter.unusedSimpArgs false

theorem bts_extract (s : ByteArray) (i j : Nat) : bts (s.extract i j) = ((bts s).drop i).take (j - i) := by
  simp [bts, ByteArray.data_extract, List.extract_eq_drop_take', List.map_drop, List.map_take]
theorem bts_tail (s : ByteArray) (i : Nat) : bts (s.extract i s.size) = (bts s).drop i := by
  rw [bts_extract, List.take_of_length_le]
  rw [List.length_drop, bts_length]
  exact Nat.le_refl _

theorem longI_pos (c : Int) : 1 ≤ longI c ∧ longI c ≤ 4 := by
  unfold longI
  split <;> (try split) <;> (try split) <;> omega

theorem dec_step (c : Int) (t : List Int) (n : Nat) (wh : Bool) (h : RowIs0 (c :: t) n wh) :
    decF DS.zero (c :: t) = (bif wh then valI ((c :: t).take n) else 65533) :: decF DS.zero ((c :: t).drop (bif decide (n = 0) then 1 else n)) := by
  obtain ⟨hn, hc, hx, hw⟩ := h
  have hp := longI_pos c
  have hcz : (c :: t).getD 0 0 = c := rfl
  rw [hcz] at hw
  by_cases h0 : n = 0
  · subst h0
    have hwf : wh = false := by
      cases wh
      · rfl
      · have := (hw.1 rfl).1; omega
    subst hwf
    have hr : rowN c = 0 := by
      by_cases hr : rowN c = 0
      · exact hr
      · exact absurd ⟨by simp, by rw [hcz]; simp; omega, by rw [hcz]; exact may_zero.2 hr⟩ hx
    rw [decF_none hr]
    rfl
  · have hl : (n : Int) ≤ longI c := by
      have := (hc (n - 1) (by omega)).2.1
      rw [hcz] at this
      omega
    have hd := dec_row c t n (by omega) (by simpa using hn) hl (fun j hj => by have := (hc j hj).2.2; rwa [hcz] at this)
    have hz : decide (n = 0) = false := by simp [h0]
    rw [hz]
    cases wh
    · refine hd.2 ?_ ?_
      · have : ¬ (n : Int) = longI c := fun e => absurd (hw.2 ⟨by omega, e⟩) (by simp)
        omega
      · by_cases he : n = t.length + 1
        · exact .inl he
        · refine .inr fun hm => hx ⟨by simp at hn ⊢; omega, ?_, by rw [hcz]; exact hm⟩
          rw [hcz]
          have : ¬ (n : Int) = longI c := fun e => absurd (hw.2 ⟨by omega, e⟩) (by simp)
          omega
    · exact hd.1 (hw.1 rfl).2

theorem bts_1 (s : ByteArray) (h : s.size = 1) (h0 : 0 < s.size) : bts s = [(s[0].toNat : Int)] := by
  have hl := bts_length s
  rw [h] at hl
  match e : bts s, hl with
  | [a], _ => have := bts_atN s 0 h0; rw [e] at this; simp at this; rw [this]
theorem bts_2 (s : ByteArray) (h : s.size = 2) (h0 : 0 < s.size) (h1 : 1 < s.size) : bts s = [(s[0].toNat : Int), (s[1].toNat : Int)] := by
  have hl := bts_length s
  rw [h] at hl
  match e : bts s, hl with
  | [a, b], _ => have x0 := bts_atN s 0 h0; have x1 := bts_atN s 1 h1; rw [e] at x0 x1; simp at x0 x1; rw [x0, x1]
theorem bts_3 (s : ByteArray) (h : s.size = 3) (h0 : 0 < s.size) (h1 : 1 < s.size) (h2 : 2 < s.size) : bts s = [(s[0].toNat : Int), (s[1].toNat : Int), (s[2].toNat : Int)] := by
  have hl := bts_length s
  rw [h] at hl
  match e : bts s, hl with
  | [a, b, c], _ => have x0 := bts_atN s 0 h0; have x1 := bts_atN s 1 h1; have x2 := bts_atN s 2 h2; rw [e] at x0 x1 x2; simp at x0 x1 x2; rw [x0, x1, x2]
theorem bts_4 (s : ByteArray) (h : s.size = 4) (h0 : 0 < s.size) (h1 : 1 < s.size) (h2 : 2 < s.size) (h3 : 3 < s.size) : bts s = [(s[0].toNat : Int), (s[1].toNat : Int), (s[2].toNat : Int), (s[3].toNat : Int)] := by
  have hl := bts_length s
  rw [h] at hl
  match e : bts s, hl with
  | [a, b, c, d], _ => have x0 := bts_atN s 0 h0; have x1 := bts_atN s 1 h1; have x2 := bts_atN s 2 h2; have x3 := bts_atN s 3 h3; rw [e] at x0 x1 x2 x3; simp at x0 x1 x2 x3; rw [x0, x1, x2, x3]

theorem value_any (s : ByteArray) (h0 : 0 < s.size) (hl : (s.size : Int) = longI ((bts s).getD 0 0)) (hm : ∀ j, j < s.size → MayI ((bts s).getD 0 0) j ((bts s).getD j 0)) (w : World) :
    Calls Tryd.prog 59 #[.string s] w (Tells (.int .i32 (valI (bts s))) w) := by
  have m0 := hm 0 h0
  rw [bts_atN s 0 h0] at hl m0
  have m0 := may_zero.1 m0
  have hp := longI_pos (s[0].toNat : Int)
  have hq : 0 ≤ (s[0].toNat : Int) := by omega
  have hl' := hl
  rw [long_is m0] at hl'
  obtain hs | hs | hs | hs : s.size = 1 ∨ s.size = 2 ∨ s.size = 3 ∨ s.size = 4 := by omega
  · rw [bts_1 s hs h0]
    refine value_1 s hs h0 _ rfl hq ?_ w
    rw [hs] at hl
    revert hl; unfold longI; split <;> (try split) <;> (try split) <;> omega
  · have h1 : 1 < s.size := by omega
    have m1 := hm 1 h1
    rw [bts_atN s 0 h0, bts_atN s 1 h1] at m1
    have k1 := may_cont (by decide) m1
    have r := rowN_two (c := (s[0].toNat : Int)) (by omega)
    rw [bts_2 s hs h0 h1]
    refine value_2 s hs h0 h1 _ _ rfl rfl r.1 ?_ k1.1 k1.2 w
    rw [hs] at hl
    revert hl; unfold longI; split <;> (try split) <;> (try split) <;> omega
  · have h1 : 1 < s.size := by omega
    have h2 : 2 < s.size := by omega
    have m1 := hm 1 h1
    have m2 := hm 2 h2
    rw [bts_atN s 0 h0, bts_atN s 1 h1] at m1
    rw [bts_atN s 0 h0, bts_atN s 2 h2] at m2
    have k1 := may_cont (by decide) m1
    have k2 := may_cont (by decide) m2
    rw [bts_3 s hs h0 h1 h2]
    rw [hs] at hl
    refine value_3 s hs h0 h1 h2 _ _ _ rfl rfl rfl ?_ ?_ k1.1 k1.2 k2.1 k2.2 w
    · revert hl; unfold longI; split <;> (try split) <;> (try split) <;> omega
    · revert hl; unfold longI; split <;> (try split) <;> (try split) <;> omega
  · have h1 : 1 < s.size := by omega
    have h2 : 2 < s.size := by omega
    have h3 : 3 < s.size := by omega
    have m1 := hm 1 h1
    have m2 := hm 2 h2
    have m3 := hm 3 h3
    rw [bts_atN s 0 h0, bts_atN s 1 h1] at m1
    rw [bts_atN s 0 h0, bts_atN s 2 h2] at m2
    rw [bts_atN s 0 h0, bts_atN s 3 h3] at m3
    have k1 := may_cont (by decide) m1
    have k2 := may_cont (by decide) m2
    have k3 := may_cont (by decide) m3
    have r := rowN_two (c := (s[0].toNat : Int)) (by omega)
    rw [bts_4 s hs h0 h1 h2 h3]
    rw [hs] at hl
    refine value_4 s hs h0 h1 h2 h3 _ _ _ _ rfl rfl rfl rfl ?_ r.2 k1.1 k1.2 k2.1 k2.2 k3.1 k3.2 w
    revert hl; unfold longI; split <;> (try split) <;> (try split) <;> omega

end Go.Proofs.YtfnieoffgnnldaaDoor
