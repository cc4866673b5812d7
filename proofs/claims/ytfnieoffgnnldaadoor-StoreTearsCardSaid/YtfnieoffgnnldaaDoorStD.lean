/- store: the document's checks; entries. -/
import Derived.Test.YtfnieoffgnnldaaDoorStC
namespace Go.Proofs.YtfnieoffgnnldaaDoor
open Go.RowKit
set_option linter.unusedVariables false
set_option linter.unusedSimpArgs false

theorem run_cat (w : World) (x y : ByteArray) (h : x.size + y.size ≤ 100000000) : (Op.stringOp .add x y).run Tryd.prog w = .ok (.string (x ++ y)) w := by
  simp [go_sem]
  omega
theorem size_cat (x y : ByteArray) : (x ++ y).size = x.size + y.size := ByteArray.size_append
set_option maxHeartbeats 2000000 in
theorem rcheck_any (s : ByteArray) (hs : s.size ≤ 10000000) (w : World) : Calls Tryd.prog 31 #[.string s] w fun e w' => e = .returned (.string (strOfNums (hx2 (chkI (bts s))))) ∧ Below w.heap.size w w' := by
  go_enter Tryd.func31, Tryd.ntmps31
  go_wp2_with fail
  go_loopw [3, 4] (fun v i wr => ∃ (k : Nat) (n : Nat), k ≤ s.size ∧ i = .int .i64 (k : Nat) ∧ v = .int .i64 (n : Nat) ∧ n < 256 ∧ Hid (chkI ((bts s).take k) = (n : Int)) ∧ w = wr) (fun _ i _ => s.size - (intOf i).toNat)
  case atStart => exact ⟨0, 7, Nat.zero_le _, rfl, rfl, by omega, Lib.hid rfl, rfl⟩
  case round =>
    obtain ⟨k, n, hk, rfl, rfl, hn, HC, rfl⟩ := hrel
    by_cases hlt : k < s.size
    · have hki : (k : Int) < (s.size : Int) := by omega
      have hk0 : (0 : Int) ≤ (k : Int) := by omega
      have hb := byte_lt (s[k]'hlt)
      obtain ⟨b, hbe⟩ : ∃ b, (s[k]'hlt).toNat = b := ⟨_, rfl⟩
      have HS := Lib.hid (show chkI ((bts s).take (k + 1)) = (((n * 31 + b) % 256 : Nat) : Int) by
        rw [bts_take_succ s k hlt, chk_snoc, HC.out, hbe]
        omega)
      have e1 : (31 * (n : Int) + (b : Int)).tmod 256 = (((n * 31 + b) % 256 : Nat) : Int) := by rw [Int.tmod_eq_emod_of_nonneg (by omega)]; omega
      rw [hbe] at hb
      have v1 : IntKind.i64.wrap (31 * (n : Int)) = 31 * (n : Int) := IntWalk.i64_in _ (by omega)
      have v2 : IntKind.i64.wrap (31 * (n : Int) + (b : Int)) = 31 * (n : Int) + (b : Int) := IntWalk.i64_in _ (by omega)
      have v3 : IntKind.i64.wrap (b : Int) = (b : Int) := IntWalk.i64_in _ (by omega)
      go_wp2_with fail
      go_roundw
      case rel => exact ⟨k + 1, (n * 31 + b) % 256, by omega, by go_num, by first | rfl | (congr 1) | (simp only [← e1]), by omega, HS, trivial⟩
      case measure => simp [intOf]; omega
    · obtain rfl : k = s.size := by omega
      have hd : decide ((s.size : Int) < (s.size : Int)) = false := by simp
      have HE := Lib.hid (show chkI (bts s) = (n : Int) by rw [← HC.out, List.take_of_length_le (by rw [bts_length]; exact Nat.le_refl _)])
      obtain ⟨a, ha⟩ : ∃ a, n / 16 = a := ⟨_, rfl⟩
      obtain ⟨b', hb'⟩ : ∃ a, n % 16 = a := ⟨_, rfl⟩
      have e1 : (n : Int).tdiv 16 = (a : Int) := by rw [Int.tdiv_eq_ediv_of_nonneg (by omega)]; omega
      have e2 : (n : Int).tmod 16 = (b' : Int) := by rw [Int.tmod_eq_emod_of_nonneg (by omega)]; omega
      have ha16 : a < 16 := by omega
      have hb16 : b' < 16 := by omega
      obtain ⟨X1, hX1⟩ : ∃ X, strOfNums [digI (a : Int)] = X := ⟨_, rfl⟩
      obtain ⟨X2, hX2⟩ : ∃ X, strOfNums [digI (b' : Int)] = X := ⟨_, rfl⟩
      have x1 : (⟨#[48, 49, 50, 51, 52, 53, 54, 55, 56, 57, 97, 98, 99, 100, 101, 102]⟩ : ByteArray).extract a (a + 1) = X1 := by rw [← hX1]; exact hex_cut' ha16
      have x2 : (⟨#[48, 49, 50, 51, 52, 53, 54, 55, 56, 57, 97, 98, 99, 100, 101, 102]⟩ : ByteArray).extract b' (b' + 1) = X2 := by rw [← hX2]; exact hex_cut' hb16
      have z1 : X1.size = 1 := by rw [← hX1, strOfNums_size]; rfl
      have z2 : X2.size = 1 := by rw [← hX2, strOfNums_size]; rfl
      have q1 := fun w => run_cat w X1 X2 (by omega)
      have HR := Lib.hid (show strOfNums (hx2 (n : Int)) = X1 ++ X2 by
        rw [← hX1, ← hX2, str_append]
        unfold hx2
        rw [show (n : Int) / 16 = (a : Int) by omega, show (n : Int) % 16 = (b' : Int) by omega]
        rfl)
      have w1 : IntKind.i64.wrap (a : Int) = (a : Int) := IntWalk.i64_in _ (by omega)
      have w2 : IntKind.i64.wrap (b' : Int) = (b' : Int) := IntWalk.i64_in _ (by omega)
      have w3 : IntKind.i64.wrap ((a : Int) + 1) = (a : Int) + 1 := IntWalk.i64_in _ (by omega)
      have w4 : IntKind.i64.wrap ((b' : Int) + 1) = (b' : Int) + 1 := IntWalk.i64_in _ (by omega)
      have y1 : (0 : Int) ≤ (a : Int) ∧ (a : Int) ≤ (a : Int) + 1 ∧ (a : Int) + 1 ≤ 16 := by omega
      have y2 : (0 : Int) ≤ (b' : Int) ∧ (b' : Int) ≤ (b' : Int) + 1 ∧ (b' : Int) + 1 ≤ 16 := by omega
      have y3 : ((a : Int) + 1).toNat = a + 1 := by omega
      have y4 : ((b' : Int) + 1).toNat = b' + 1 := by omega
      clear hX1 hX2 ha hb' z1 z2
      go_wp2_with fail
      go_quiet (fail)
      go_wp2_with fail
      go_ret
      exact ⟨by rw [HE.out, HR.out]; rfl, below_drewN (Below.refl _ _) _⟩
/-- An entry. -/
def entI (l : List Int) : List Int := hx2 (chkI (txtI l)) ++ [32] ++ txtI l ++ [10]
theorem hx2_len (n : Int) : (hx2 n).length = 2 := rfl
theorem entI_len (l : List Int) : (entI l).length = (txtI l).length + 4 := by
  unfold entI
  simp [hx2_len]
  omega
theorem nums_bts (l : List Int) (h : ∀ b ∈ l, 0 ≤ b ∧ b ≤ 255) : bts (strOfNums l) = l := by
  unfold bts
  rw [strOfNums_data, List.map_map]
  have : ∀ l : List Int, (∀ b ∈ l, 0 ≤ b ∧ b ≤ 255) → l.map ((fun c : UInt8 => (c.toNat : Int)) ∘ fun n => UInt8.ofNat n.toNat) = l := by
    intro l
    induction l with
    | nil => intro _; rfl
    | cons a t ih =>
      intro h
      rw [List.map_cons, ih (fun b hb => h b (by simp [hb]))]
      congr 1
      have ha := h a (by simp)
      show ((UInt8.ofNat a.toNat).toNat : Int) = a
      rw [UInt8.toNat_ofNat', Nat.mod_eq_of_lt (by omega)]
      omega
  exact this l h
set_option maxHeartbeats 1000000 in
theorem entry_any (A : Option Addr) (n c : Nat) (p : Nat → Int) (w : World) (hM : MaxW w) (hn : n ≤ 1000000) (hA : Rd w A n (iv p)) (hp : ∀ j, j < n → -2147483648 ≤ p j ∧ p j ≤ 2147483647) :
    Calls Tryd.prog 11 #[.slice A n c] w (TellsS (entI (upTo p n)) w) := by
  have C1 := Lib.hid (textOf_any A n c p w hM hn hA hp)
  have hl := txtI_len (upTo p n)
  rw [upTo_len] at hl
  have hr := txtI_range (upTo p n)
  have hsz : (strOfNums (txtI (upTo p n))).size ≤ 16000000 := by rw [strOfNums_size]; omega
  have C2 := Lib.hid (fun X => check_any (strOfNums (txtI (upTo p n))) (by omega) X)
  rw [nums_bts _ hr] at C2
  have HE := Lib.hid (show strOfNums (hx2 (chkI (txtI (upTo p n)))) ++ ⟨#[32]⟩ ++ strOfNums (txtI (upTo p n)) ++ ⟨#[10]⟩ = strOfNums (entI (upTo p n)) by
    have e1 : (⟨#[32]⟩ : ByteArray) = strOfNums [32] := rfl
    have e2 : (⟨#[10]⟩ : ByteArray) = strOfNums [10] := rfl
    rw [e1, e2, str_append, str_append, str_append]
    rfl)
  unfold TellsS at C1 ⊢
  have hz1 : (strOfNums (hx2 (chkI (txtI (upTo p n))))).size = 2 := by rw [strOfNums_size]; rfl
  obtain ⟨S, hS⟩ : ∃ S, strOfNums (txtI (upTo p n)) = S := ⟨_, rfl⟩
  obtain ⟨K, hK⟩ : ∃ S, strOfNums (hx2 (chkI (txtI (upTo p n)))) = S := ⟨_, rfl⟩
  rw [hS] at C1 C2 HE hsz
  rw [hK] at C2 HE hz1
  have u1 : (⟨#[32]⟩ : ByteArray).size = 1 := rfl
  have u2 : (⟨#[10]⟩ : ByteArray).size = 1 := rfl
  have q1 := fun w => run_cat w K ⟨#[32]⟩ (by omega)
  have q2 := fun w => run_cat w (K ++ ⟨#[32]⟩) S (by rw [size_cat]; omega)
  have q3 := fun w => run_cat w (K ++ ⟨#[32]⟩ ++ S) ⟨#[10]⟩ (by rw [size_cat, size_cat]; omega)
  clear hS hK hM hA hp hr hl hz1 hsz u1 u2
  go_enter Tryd.func11, Tryd.ntmps11
  go_wp2_with fail
  refine C1.out.mono ?_
  rintro e w1 ⟨rfl, b1⟩
  have H1 := Lib.hid b1
  clear b1 C1
  go_wp2_with fail
  refine (C2.out w1).mono ?_
  rintro e w2 ⟨rfl, b2⟩
  have H2 := Lib.hid (H1.out.trans (b2.mono H1.out.size))
  clear b2 C2
  go_wp2_with fail
  go_ret
  exact ⟨by rw [← HE.out]; rfl, H2.out⟩
end Go.Proofs.YtfnieoffgnnldaaDoor
