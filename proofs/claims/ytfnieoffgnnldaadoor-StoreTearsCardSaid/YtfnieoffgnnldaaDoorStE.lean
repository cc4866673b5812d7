/- store: the document's texts and entries; Append. -/
import Derived.Test.YtfnieoffgnnldaaDoorStD
namespace Go.Proofs.YtfnieoffgnnldaaDoor
open Go.RowKit
set_option linter.unusedVariables false
set_option linter.unusedSimpArgs false

theorem txtI_snoc (l : List Int) (r : Int) : txtI (l ++ [r]) = txtI l ++ chT r := by simp [txtI]
theorem chT_len (r : Int) : (chT r).length ≤ 4 := by
  unfold chT
  split
  · decide
  · split
    · decide
    · exact (putS_range r).2.2
set_option maxHeartbeats 2000000 in
theorem rtext_any (A : Option Addr) (n c : Nat) (p : Nat → Int) (w : World) (hn : n ≤ 1000000) (hA : Rd w A n (iv p)) (hp : ∀ j, j < n → -2147483648 ≤ p j ∧ p j ≤ 2147483647) :
    Calls Tryd.prog 30 #[.slice A n c] w (TellsS (txtI (upTo p n)) w) := by
  have HA := Lib.hid hA
  have HP := Lib.hid hp
  clear hA hp
  go_enter Tryd.func30, Tryd.ntmps30
  go_wp2_with fail
  go_loopw [3, 4] (fun sv i wr => ∃ (k : Nat) (S : ByteArray), k ≤ n ∧ i = .int .i64 (k : Nat) ∧ sv = .string S ∧ S.size ≤ 4 * k ∧ Hid (S = strOfNums (txtI (upTo p k)) ∧ Below w.heap.size w wr)) (fun _ i _ => n - (intOf i).toNat)
  case atStart => exact ⟨0, ⟨#[]⟩, Nat.zero_le _, rfl, rfl, by decide, Lib.hid ⟨rfl, Below.refl _ _⟩⟩
  case round =>
    obtain ⟨k, S, hk, rfl, rfl, hS, HS⟩ := hrel
    by_cases hlt : k < n
    · have hki : (k : Int) < (n : Int) := by omega
      have hk0 : (0 : Int) ≤ (k : Int) := by omega
      have hAw := HA.out.later HS.out.2
      obtain ⟨b, o, rfl, hbl, hc⟩ := hAw k hlt
      have HR := Lib.hid (show txtI (upTo p (k + 1)) = txtI (upTo p k) ++ chT (p k) by rw [upTo_succ, txtI_snoc])
      have hpk := HP.out k hlt
      unfold iv at hc
      obtain ⟨r, hr⟩ : ∃ r, p k = r := ⟨_, rfl⟩
      rw [hr] at hc HR hpk
      clear hAw hr
      by_cases h10 : r = 10
      · subst h10
        have q0 := fun w => run_cat w S ⟨#[92, 110]⟩ (by have : (⟨#[92, 110]⟩ : ByteArray).size = 2 := rfl; omega)
        go_wp2_with fail
        go_roundw
        case rel => exact ⟨k + 1, _, by omega, by go_num, rfl, by rw [size_cat]; have : (⟨#[92, 110]⟩ : ByteArray).size = 2 := rfl; omega, Lib.hid ⟨by rw [HR.out, HS.out.1, ← str_append]; rfl, HS.out.2⟩⟩
        case measure => simp [intOf]; omega
      · have d10 : (r == 10) = false := by simpa using h10
        by_cases h92 : r = 92
        · subst h92
          have q0 := fun w => run_cat w S ⟨#[92, 92]⟩ (by have : (⟨#[92, 92]⟩ : ByteArray).size = 2 := rfl; omega)
          go_wp2_with fail
          go_roundw
          case rel => exact ⟨k + 1, _, by omega, by go_num, rfl, by rw [size_cat]; have : (⟨#[92, 92]⟩ : ByteArray).size = 2 := rfl; omega, Lib.hid ⟨by rw [HR.out, HS.out.1, ← str_append]; rfl, HS.out.2⟩⟩
          case measure => simp [intOf]; omega
        · have d92 : (r == 92) = false := by simpa using h92
          have hch : chT r = putS r := by unfold chT; rw [if_neg h10, if_neg h92]
          have hps := (putS_range r).2.2
          have C := Lib.hid (rput_any (r := r) (w := wr) hpk.1 hpk.2)
          have hz : (strOfNums (putS r)).size ≤ 4 := by rw [strOfNums_size]; exact hps
          obtain ⟨T, hT⟩ : ∃ T, strOfNums (putS r) = T := ⟨_, rfl⟩
          rw [hT] at C hz
          have HT := Lib.hid hT
          have q0 := fun w => run_cat w S T (by omega)
          clear hT h10 h92 hps
          go_wp2_with fail
          refine C.out.mono ?_
          rintro e w1 ⟨rfl, b1⟩
          have H1 := Lib.hid (HS.out.2.trans (b1.mono HS.out.2.size))
          clear b1 C
          go_wp2_with fail
          go_roundw
          case rel => exact ⟨k + 1, _, by omega, by go_num, rfl, by rw [size_cat]; omega, Lib.hid ⟨by rw [HR.out, hch, HS.out.1, ← HT.out, str_append], H1.out⟩⟩
          case measure => simp [intOf]; omega
    · obtain rfl : k = n := by omega
      have hd : decide ((k : Int) < (k : Int)) = false := by simp
      go_wp2_with fail
      go_ret
      exact ⟨by rw [HS.out.1]; rfl, HS.out.2⟩
set_option maxHeartbeats 1000000 in
theorem rentry_any (A : Option Addr) (n c : Nat) (p : Nat → Int) (w : World) (hn : n ≤ 100000) (hA : Rd w A n (iv p)) (hp : ∀ j, j < n → -2147483648 ≤ p j ∧ p j ≤ 2147483647) :
    Calls Tryd.prog 12 #[.slice A n c] w (TellsS (entI (upTo p n)) w) := by
  have C1 := Lib.hid (rtext_any A n c p w (by omega) hA hp)
  have hl := txtI_len (upTo p n)
  rw [upTo_len] at hl
  have hr := txtI_range (upTo p n)
  have hsz : (strOfNums (txtI (upTo p n))).size ≤ 1600000 := by rw [strOfNums_size]; omega
  have C2 := Lib.hid (fun X => rcheck_any (strOfNums (txtI (upTo p n))) (by omega) X)
  rw [nums_bts _ hr] at C2
  have HE := Lib.hid (show strOfNums (hx2 (chkI (txtI (upTo p n)))) ++ ⟨#[32]⟩ ++ strOfNums (txtI (upTo p n)) ++ ⟨#[10]⟩ = strOfNums (entI (upTo p n)) by
    have e1 : (⟨#[32]⟩ : ByteArray) = strOfNums [32] := rfl
    have e2 : (⟨#[10]⟩ : ByteArray) = strOfNums [10] := rfl
    rw [e1, e2, str_append, str_append, str_append]
    rfl)
  unfold TellsS at C1 ⊢
  have hz1 : (strOfNums (hx2 (chkI (txtI (upTo p n))))).size = 2 := by rw [strOfNums_size]; rfl
  obtain ⟨S, hS⟩ : ∃ S, strOfNums (txtI (upTo p n)) = S := ⟨_, rfl⟩
  obtain ⟨K, hK⟩ : ∃ S, strOfNums (hx2 (chkI (txtI (upTo p n)))) = S := ⟨_, rfl⟩
  rw [hS] at C1 C2 HE hsz
  rw [hK] at C2 HE hz1
  have u1 : (⟨#[32]⟩ : ByteArray).size = 1 := rfl
  have u2 : (⟨#[10]⟩ : ByteArray).size = 1 := rfl
  have q1 := fun w => run_cat w K ⟨#[32]⟩ (by omega)
  have q2 := fun w => run_cat w (K ++ ⟨#[32]⟩) S (by rw [size_cat]; omega)
  have q3 := fun w => run_cat w (K ++ ⟨#[32]⟩ ++ S) ⟨#[10]⟩ (by rw [size_cat, size_cat]; omega)
  clear hS hK hA hp hr hl hz1 hsz u1 u2
  go_enter Tryd.func12, Tryd.ntmps12
  go_wp2_with fail
  refine C1.out.mono ?_
  rintro e w1 ⟨rfl, b1⟩
  have H1 := Lib.hid b1
  clear b1 C1
  go_wp2_with fail
  refine (C2.out w1).mono ?_
  rintro e w2 ⟨rfl, b2⟩
  have H2 := Lib.hid (H1.out.trans (b2.mono H1.out.size))
  clear b2 C2
  go_wp2_with fail
  go_ret
  exact ⟨by rw [← HE.out]; rfl, H2.out⟩
/-- A store with a line more, or as it was. -/
def appP (s : ByteArray) (l : List Int) : ByteArray × Int := if 1048576 < s.size + (entI l).length then (s, 3) else (s ++ strOfNums (entI l), 0)
set_option maxHeartbeats 1000000 in
theorem append_any (s : ByteArray) (hs : s.size ≤ 2000000) (A : Option Addr) (n c : Nat) (p : Nat → Int) (w : World) (hM : MaxW w) (hn : n ≤ 100000) (hA : Rd w A n (iv p)) (hp : ∀ j, j < n → -2147483648 ≤ p j ∧ p j ≤ 2147483647) :
    Calls Tryd.prog 10 #[.string s, .slice A n c] w fun e w' => e = .returned (.tuple #[.string (appP s (upTo p n)).1, .int .i64 (appP s (upTo p n)).2]) ∧ Below w.heap.size w w' := by
  have C1 := Lib.hid (entry_any A n c p w hM (by omega) hA hp)
  have hl := entI_len (upTo p n)
  have hl2 := txtI_len (upTo p n)
  rw [upTo_len] at hl2
  have hsz : (strOfNums (entI (upTo p n))).size = (entI (upTo p n)).length := strOfNums_size _
  unfold TellsS at C1
  unfold appP
  obtain ⟨E, hE⟩ : ∃ E, strOfNums (entI (upTo p n)) = E := ⟨_, rfl⟩
  rw [hE] at C1 hsz ⊢
  rw [← hsz] at hl ⊢
  have v1 : IntKind.i64.wrap ((s.size : Int) + (E.size : Int)) = (s.size : Int) + (E.size : Int) := IntWalk.i64_in _ (by omega)
  clear hE hsz hM hA hp
  by_cases h : 1048576 < s.size + E.size
  · rw [if_pos h]
    have d : (1048576 : Int) < (s.size : Int) + (E.size : Int) := by omega
    clear hl hl2
    go_enter Tryd.func10, Tryd.ntmps10
    go_wp2_with fail
    refine C1.out.mono ?_
    rintro e w1 ⟨rfl, b1⟩
    have H1 := Lib.hid b1
    clear b1 C1
    go_wp2_with fail
    go_ret2
    exact ⟨rfl, H1.out⟩
  · rw [if_neg h]
    have d : ¬ (1048576 : Int) < (s.size : Int) + (E.size : Int) := by omega
    have q1 := fun w => run_cat w s E (by omega)
    clear hl hl2
    go_enter Tryd.func10, Tryd.ntmps10
    go_wp2_with fail
    refine C1.out.mono ?_
    rintro e w1 ⟨rfl, b1⟩
    have H1 := Lib.hid b1
    clear b1 C1
    go_wp2_with fail
    go_ret2
    exact ⟨rfl, H1.out⟩
end Go.Proofs.YtfnieoffgnnldaaDoor
