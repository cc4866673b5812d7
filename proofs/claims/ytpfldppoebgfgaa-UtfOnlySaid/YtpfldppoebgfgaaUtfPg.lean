/- utf: UtfOnly's walk. -/
import Derived.Test.YtpfldppoebgfgaaUtfPe
import Derived.Test.YtpfldppoebgfgaaUtfY
namespace Go.Proofs.Ytpfldppoebgfgaa
open Go.RowKit
set_option linter.unusedVariables false
set_option linter.unusedSimpArgs false

theorem whole_rng (s : DS) (b : Int) (h : s.Ok) (h0 : ¬ s.n = 0) : 0 ≤ wholeD s b ∧ wholeD s b < 8388608 := by
  have hr : 2 ≤ rowN s.h0 := by
    rcases h.2 with h | h | h | h <;> omega
  obtain ⟨r0, r1, _⟩ := row_bits s.h0 hr
  unfold wholeD
  split
  · omega
  · split <;> omega

theorem step_rng (s : DS) (b : Int) (h : s.Ok) (b0 : 0 ≤ b) (b1 : b ≤ 255) : ∀ x ∈ (stepD s b).2, 0 ≤ x ∧ x < 8388608 := by
  have hb : ∀ x ∈ (beginD b).2, 0 ≤ x ∧ x < 8388608 := by
    unfold beginD
    split
    · simp
    · split
      · simp; omega
      · simp
  unfold stepD
  split
  · exact hb
  · split
    · split
      · have := whole_rng s b h ‹_›
        simp; omega
      · split <;> simp
    · intro x hx
      simp only [List.mem_cons] at hx
      rcases hx with rfl | hx
      · omega
      · exact hb x hx

theorem decF_rng : ∀ (l : List Int) (s : DS), s.Ok → (∀ b ∈ l, 0 ≤ b ∧ b ≤ 255) → ∀ x ∈ decF s l, 0 ≤ x ∧ x < 8388608
  | [], s, _, _, x, hx => by
    simp only [decF, endD] at hx
    split at hx
    · simp at hx
    · simp at hx; omega
  | b :: l, s, hs, hb, x, hx => by
    simp only [decF, List.mem_append] at hx
    rcases hx with hx | hx
    · exact step_rng s b hs (hb b (by simp)).1 (hb b (by simp)).2 x hx
    · exact decF_rng l _ (stepD_ok s b hs (hb b (by simp)).1 (hb b (by simp)).2) (fun c hc => hb c (by simp [hc])) x hx

theorem dec_rng (s : ByteArray) (j : Nat) (hj : j < (decD (bts s)).length) : -2147483648 ≤ (decD (bts s)).getD j 0 ∧ (decD (bts s)).getD j 0 ≤ 2147483647 := by
  have h := decF_rng (bts s) DS.zero zero_ok (bts_range s) ((decD (bts s)).getD j 0) (by
    rw [← decD_is]
    rw [show (decD (bts s)).getD j 0 = (decD (bts s))[j] by simp [List.getD, List.getElem?_eq_getElem hj]]
    exact List.getElem_mem hj)
  omega

theorem upTo_all (l : List Int) : upTo (fun j => l.getD j 0) l.length = l := by
  apply List.ext_getElem
  · simp [upTo]
  · intro i h1 h2
    simp [upTo, List.getD, h2]

theorem dec_len (s : ByteArray) : (decD (bts s)).length ≤ 2 * s.size + 1 := by
  have h := runD_len (bts s)
  rw [bts_length] at h
  simp only [decD, List.length_append, endD]
  split <;> simp <;> omega

/-- Encode, of what was decoded without any Bad. -/
theorem back_again (s : ByteArray) (A : Option Addr) (c : Nat) (w : World) (hsz : s.size ≤ 5000) (hA : Rd w A (decD (bts s)).length (li (decD (bts s)))) (h : ∀ j, j < (decD (bts s)).length → (decD (bts s)).getD j 0 ≠ 65533) :
    Calls Try.prog 22 #[.slice A (decD (bts s)).length c] w fun e w' => e = .returned (.string s) ∧ Below w.heap.size w w' := by
  have hl := dec_len s
  refine (enc_any A _ c (fun j => (decD (bts s)).getD j 0) w (by omega) hA (fun j hj => dec_rng s j hj)).mono fun e w' hh => ?_
  obtain ⟨he, hb⟩ := hh
  refine ⟨?_, hb⟩
  rw [he, upTo_all, decD_is, enc_dec _ _ (Nat.le_refl _) (bts_range s), str_bts]
  intro hm
  obtain ⟨i, hi, e⟩ := List.getElem_of_mem hm
  rw [← decD_is] at hi
  refine h i hi ?_
  rw [show (decD (bts s)).getD i 0 = (decD (bts s))[i] by simp [List.getD, List.getElem?_eq_getElem hi], ← e]
  congr 1
  exact decD_is _

set_option maxHeartbeats 2000000 in
set_option maxRecDepth 100000 in
theorem only_tail (s : ByteArray) (w : World) (h0 : s.size ≤ 5000) (d0 : decide ((5000 : Int) < (s.size : Int)) = false) :
    Calls Try.prog 7 #[.string s] w (Yes w) := by
  have hl := dec_len s
  have HW := Lib.hid awake_yes
  go_enter Try.func7, Try.ntmps7
  go_wp2_with fail
  refine (decode_any s _ (by omega)).mono ?_
  rintro e w1 ⟨A1, e1, rfl, r1, b1⟩
  obtain ⟨n, hn⟩ : ∃ n, n = (decD (bts s)).length := ⟨_, rfl⟩
  rw [← hn] at r1 hl ⊢
  have HC := Lib.hid (And.intro hn (And.intro r1 b1))
  clear hn r1 b1
  go_wp2
  go_loop [4] (fun i => ∃ k : Nat, k ≤ n ∧ i = .int .i64 k ∧ Hid (∀ j, j < k → (decD (bts s)).getD j 0 ≠ 65533)) (fun i => n - (intOf i).toNat)
  case atStart => exact ⟨0, Nat.zero_le _, rfl, Lib.hid (fun j hj => absurd hj (by omega))⟩
  case round =>
    obtain ⟨k, hk, rfl, HN⟩ := hrel
    by_cases hlt : k < n
    · obtain ⟨b, o, rfl, hbl, hc⟩ := HC.out.2.1 k hlt
      unfold li at hc
      obtain ⟨x, hx⟩ : ∃ x, x = (decD (bts s)).getD k 0 := ⟨_, rfl⟩
      rw [← hx] at hc
      by_cases hbad : x = 65533
      · subst hbad
        clear hx
        go_wp2_with (go_at_call 12; refine (HW.out _).mono ?_; rintro e w4 ⟨rfl, hb4⟩)
        go_ret
        exact ⟨rfl, HC.out.2.2.trans (hb4.mono HC.out.2.2.size)⟩
      · have hf : (x == 65533) = false := by simp [hbad]
        have HX := Lib.hid hx
        have HBad := Lib.hid hbad
        clear hx hbad
        go_wp2
        go_round
        case rel =>
          refine ⟨k + 1, by omega, by go_num, Lib.hid (fun j hj => ?_)⟩
          by_cases hjk : j = k
          · subst hjk; rw [← HX.out]; exact HBad.out
          · exact HN.out j (by omega)
        case measure => simp [intOf]; omega
    · obtain rfl : k = n := by omega
      have HE := Lib.hid (fun w A c (hA : Rd w A (decD (bts s)).length (li (decD (bts s)))) => back_again s A c w h0 hA (fun j hj => HN.out j (by rw [HC.out.1]; exact hj)))
      rw [← HC.out.1] at HE
      go_wp2_with (first
        | (go_at_call 22; refine (HE.out _ _ _ HC.out.2.1).mono ?_; rintro e w3 ⟨rfl, hb3⟩; have HG := Lib.hid hb3; clear hb3)
        | (go_at_call 12; refine (HW.out _).mono ?_; rintro e w4 ⟨rfl, hb4⟩))
      go_ret
      have h3 := HC.out.2.2.trans (HG.out.mono HC.out.2.2.size)
      exact ⟨rfl, h3.trans (hb4.mono h3.size)⟩
set_option maxHeartbeats 2000000 in
set_option maxRecDepth 100000 in
theorem only_long (s0 : ByteArray) (w : World) (hl0 : 5000 < s0.size) (d0 : decide ((5000 : Int) < (s0.size : Int)) = true) :
    Calls Try.prog 7 #[.string s0] w (Yes w) := by
  have HW := Lib.hid awake_yes
  go_enter Try.func7, Try.ntmps7
  go_wp2_with fail
  obtain ⟨s, hs⟩ : ∃ s, s = s0.extract 0 5000 := ⟨_, rfl⟩
  have h0 : s.size ≤ 5000 := by rw [hs, ByteArray.size_extract]; omega
  rw [← hs]
  clear hs hl0 d0
  have hl := dec_len s
  refine (decode_any s _ (by omega)).mono ?_
  rintro e w1 ⟨A1, e1, rfl, r1, b1⟩
  obtain ⟨n, hn⟩ : ∃ n, n = (decD (bts s)).length := ⟨_, rfl⟩
  rw [← hn] at r1 hl ⊢
  have HC := Lib.hid (And.intro hn (And.intro r1 b1))
  clear hn r1 b1
  go_wp2
  go_loop [4] (fun i => ∃ k : Nat, k ≤ n ∧ i = .int .i64 k ∧ Hid (∀ j, j < k → (decD (bts s)).getD j 0 ≠ 65533)) (fun i => n - (intOf i).toNat)
  case atStart => exact ⟨0, Nat.zero_le _, rfl, Lib.hid (fun j hj => absurd hj (by omega))⟩
  case round =>
    obtain ⟨k, hk, rfl, HN⟩ := hrel
    by_cases hlt : k < n
    · obtain ⟨b, o, rfl, hbl, hc⟩ := HC.out.2.1 k hlt
      unfold li at hc
      obtain ⟨x, hx⟩ : ∃ x, x = (decD (bts s)).getD k 0 := ⟨_, rfl⟩
      rw [← hx] at hc
      by_cases hbad : x = 65533
      · subst hbad
        clear hx
        go_wp2_with (go_at_call 12; refine (HW.out _).mono ?_; rintro e w4 ⟨rfl, hb4⟩)
        go_ret
        exact ⟨rfl, HC.out.2.2.trans (hb4.mono HC.out.2.2.size)⟩
      · have hf : (x == 65533) = false := by simp [hbad]
        have HX := Lib.hid hx
        have HBad := Lib.hid hbad
        clear hx hbad
        go_wp2
        go_round
        case rel =>
          refine ⟨k + 1, by omega, by go_num, Lib.hid (fun j hj => ?_)⟩
          by_cases hjk : j = k
          · subst hjk; rw [← HX.out]; exact HBad.out
          · exact HN.out j (by omega)
        case measure => simp [intOf]; omega
    · obtain rfl : k = n := by omega
      have HE := Lib.hid (fun w A c (hA : Rd w A (decD (bts s)).length (li (decD (bts s)))) => back_again s A c w h0 hA (fun j hj => HN.out j (by rw [HC.out.1]; exact hj)))
      rw [← HC.out.1] at HE
      go_wp2_with (first
        | (go_at_call 22; refine (HE.out _ _ _ HC.out.2.1).mono ?_; rintro e w3 ⟨rfl, hb3⟩; have HG := Lib.hid hb3; clear hb3)
        | (go_at_call 12; refine (HW.out _).mono ?_; rintro e w4 ⟨rfl, hb4⟩))
      go_ret
      have h3 := HC.out.2.2.trans (HG.out.mono HC.out.2.2.size)
      exact ⟨rfl, h3.trans (hb4.mono h3.size)⟩
theorem walk_UtfOnly (s : ByteArray) (ws : s.size ≤ maxLen) (w : World) : Calls Try.prog 7 #[.string s] w (Yes w) := by
  by_cases h : s.size ≤ 5000
  · exact only_tail s w h (by simp; omega)
  · exact only_long s w (by omega) (by simp; omega)

end Go.Proofs.Ytpfldppoebgfgaa
