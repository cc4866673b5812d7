/- script: the document's Digits. -/
import Derived.Test.YtjkhkohlejkdlaaDoorScPb
import Derived.Laws.BytesArg
namespace Go.Proofs.YtjkhkohlejkdlaaDoor
open Go.RowKit
set_option linter.unusedVariables false
set_option linter.unusedSimpArgs false

theorem dig_one {n : Nat} (h : n < 10) : dig n = ⟨#[UInt8.ofNat (48 + n)]⟩ := by unfold dig; rw [Lib.decDigits_one h]
theorem dig_step {n : Nat} (h : 10 ≤ n) : dig n = dig (n / 10) ++ dig (n % 10) := by
  apply ByteArray.ext
  rw [← Array.toList_inj]
  have : (dig (n / 10) ++ dig (n % 10)).data.toList = Lib.decDigits (n / 10) ++ Lib.decDigits (n % 10) := by simp [dig]
  rw [this]
  show Lib.decDigits n = _
  have h1 : n % 10 < 10 := by omega
  rw [Lib.decDigits_one h1, Lib.decDigits, dif_neg (by omega)]
theorem one_str (d : Nat) : strOfNums [((48 + d : Nat) : Int)] = ⟨#[UInt8.ofNat (48 + d)]⟩ := by
  show (⟨#[UInt8.ofNat ((48 + d : Nat) : Int).toNat]⟩ : ByteArray) = _
  rw [Int.toNat_natCast]
theorem conv_one (w : World) (d : Nat) (C : Array Value) (hC : C = #[.int .u8 (48 + (d : Int))]) :
    (convert 41 9 (.slice (some ⟨w.heap.size, 0, none⟩) 1 1)).run Tryd.prog (w.alloc (.cells C 5)) = .ok (.string ⟨#[UInt8.ofNat (48 + d)]⟩) (w.alloc (.cells C 5)) := by
  subst hC
  rw [← one_str]
  refine run_convert_bytes_arg (P := Tryd.prog) _ 41 5 Tryd.underlying41 Tryd.underlying5 w.heap.size 0 1 1 [((48 + d : Nat) : Int)] rfl (fun i hi => ?_) 9 Tryd.underlying9
  rw [Nat.zero_add, World.cell?_alloc_new]
  obtain rfl : i = 0 := by omega
  simp [List.getD]
set_option maxHeartbeats 1000000 in
theorem digits_one (n : Nat) (h : n < 10) (w : World) : Calls Tryd.prog 26 #[.int .i64 n] w fun e w' => e = .returned (.string (dig n)) ∧ Below w.heap.size w w' := by
  rw [dig_one h]
  have d1 : (n : Int) < 10 := by omega
  have f1 : IntKind.i64.wrap (48 + (n : Int)) = 48 + (n : Int) := IntWalk.i64_in _ (by omega)
  have f2 : IntKind.u8.wrap (48 + (n : Int)) = 48 + (n : Int) := IntWalk.u8_in _ (by omega)
  have K := conv_one w n #[.int .u8 (48 + (n : Int))] rfl
  obtain ⟨c, hc⟩ : ∃ c, UInt8.ofNat (48 + n) = c := ⟨_, rfl⟩
  rw [hc] at K ⊢
  clear hc
  go_enter Tryd.func26, Tryd.ntmps26
  go_wp2
  go_ret
  exact ⟨rfl, (Below.refl _ _).alloc (Nat.le_refl _) _⟩
theorem dig_size {n : Nat} (h : n ≤ 9999) : (dig n).size ≤ 4 := dec_four h
set_option maxHeartbeats 1000000 in
theorem rdigits_any : ∀ (k n : Nat), n < k → n ≤ 9999 → ∀ w : World, Calls Tryd.prog 26 #[.int .i64 n] w fun e w' => e = .returned (.string (dig n)) ∧ Below w.heap.size w w' := by
  intro k
  induction k with
  | zero => intro n h; omega
  | succ k ih =>
    intro n h h9 w
    by_cases h10 : n < 10
    · exact digits_one n h10 w
    · have C1 := Lib.hid (fun w => ih (n / 10) (by omega) (by omega) w)
      have C2 := Lib.hid (fun w => digits_one (n % 10) (by omega) w)
      rw [dig_step (by omega)]
      have s1 := dig_size (n := n / 10) (by omega)
      have s2 := dig_size (n := n % 10) (by omega)
      obtain ⟨D1, hD1⟩ : ∃ D, dig (n / 10) = D := ⟨_, rfl⟩
      obtain ⟨D2, hD2⟩ : ∃ D, dig (n % 10) = D := ⟨_, rfl⟩
      rw [hD1] at s1 C1 ⊢
      rw [hD2] at s2 C2 ⊢
      have k1 := fun w => run_cat w D1 D2 (by omega)
      have d1 : ¬ (n : Int) < 10 := by omega
      have e1 : (n : Int).tmod 10 = ((n % 10 : Nat) : Int) := by rw [Int.tmod_eq_emod_of_nonneg (by omega)]; omega
      have e2 : (n : Int).tdiv 10 = ((n / 10 : Nat) : Int) := by rw [Int.tdiv_eq_ediv_of_nonneg (by omega)]; omega
      obtain ⟨a, ha⟩ : ∃ a, n / 10 = a := ⟨_, rfl⟩
      obtain ⟨b, hb⟩ : ∃ b, n % 10 = b := ⟨_, rfl⟩
      rw [ha] at e2 C1
      rw [hb] at e1 C2
      have f1 : IntKind.i64.wrap (a : Int) = (a : Int) := IntWalk.i64_in _ (by omega)
      have f2 : IntKind.i64.wrap (b : Int) = (b : Int) := IntWalk.i64_in _ (by omega)
      clear ih hD1 hD2 s1 s2 ha hb
      go_enter Tryd.func26, Tryd.ntmps26
      go_wp2_with fail
      refine (C1.out _).mono ?_
      rintro e w1 ⟨rfl, b1⟩
      have H1 := Lib.hid b1
      clear b1
      go_wp2_with fail
      refine (C2.out _).mono ?_
      rintro e w2 ⟨rfl, b2⟩
      have H2 := Lib.hid b2
      clear b2
      go_wp2_with fail
      go_ret
      exact ⟨rfl, below_next H1.out H2.out⟩
theorem rdigits (n : Nat) (h : n ≤ 9999) (w : World) : Calls Tryd.prog 26 #[.int .i64 n] w fun e w' => e = .returned (.string (dig n)) ∧ Below w.heap.size w w' := rdigits_any (n + 1) n (by omega) h w
end Go.Proofs.YtjkhkohlejkdlaaDoor
